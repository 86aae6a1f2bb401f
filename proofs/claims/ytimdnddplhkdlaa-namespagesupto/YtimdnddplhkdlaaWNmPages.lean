/- The walk of the law NamesPages. -/
import Derived.Test.YtimdnddplhkdlaaWNmFolds
import Derived.Test.YtimdnddplhkdlaaNmX
import Derived.Test.YtimdnddplhkdlaaIntM
namespace Go.Proofs.Ytimdnddplhkdlaa
open Go.RowKit Go.Shelf Go.Maps
set_option linter.unusedVariables false
set_option linter.unusedSimpArgs false

set_option maxRecDepth 100000 in
set_option maxHeartbeats 8000000 in
theorem namesPages_walk (v : Value) (ks : List Bs) (p d af : Bs) (most : Int) (vm : Value) (xs : List Int) (w : World) (hv : Strs w v (ks.map tb)) (hl : ks.length ≤ 1048576) (hb : ∀ k ∈ ks, k.length ≤ 1048576) (hpl : p.length ≤ 1048576) (hdl : d.length ≤ 1048576) (hal : af.length ≤ 1048576) (hx : IntsI w vm xs) (_ : ∀ x ∈ xs, (Lit.int .i64 x).wf = true) (hxl : xs.length ≤ 1048576) (hm : MaxL w) :
    Calls Try.prog 5 #[v, .agg #[.string (tb p), .string (tb d), .string (tb af), .int .i64 most], vm] w fun e w' => e = .returned (.bool true) ∧ Below w.heap.size w w' := by
  have k1 := keep_alloc (fun _ => False) w (.cells #[.string (tb p), .string (tb d), .string (tb af), .int .i64 most] 26)
  have hR : RowIs (w.alloc (.cells #[.string (tb p), .string (tb d), .string (tb af), .int .i64 most] 26)) w.heap.size (askC p d af most) 26 := heap_alloc_new _ _
  have AW := hid (fun W (h : Keep (fun _ => False) w W) => awake12 W (hm.keep h))
  have FA := hid (fun af' n W (h : Keep (fun _ => False) w W) => fold_any ks p d af' n v W (strs_keep hv h) (hm.keep h) hl hb)
  have RI := hid (ritems_any ks p d v _ (strs_keep hv k1) hl hb (Nat.le_trans hpl (by omega)) (Nat.le_trans hdl (by omega)))
  have BX : Hid (∀ W, Keep (fun _ => False) (w.alloc (.cells #[.string (tb p), .string (tb d), .string (tb af), .int .i64 most] 26)) W → W.cell? ⟨w.heap.size, 0, none⟩ = some (.string (tb p)) ∧ W.cell? ⟨w.heap.size, 1, none⟩ = some (.string (tb d))) := fun W h => by
    have r := hR.keep h (fun h => h)
    exact ⟨r.cellAt rfl, r.cellAt rfl⟩
  have HK1 := hid k1
  have HLK := hid hl
  obtain ⟨ad0, cap0, hve, _⟩ := hv.at
  rw [List.length_map] at hve
  subst hve
  obtain ⟨adx, capx, rfl, hxc⟩ := hx.form
  have HXC : Hid (∀ k (hk : k < xs.length) W, Keep (fun _ => False) w W → ∃ b off, adx = some ⟨b, off, none⟩ ∧ W.cell? ⟨b, off + k, none⟩ = some (.int .i64 xs[k])) := fun k hk W h => by
    obtain ⟨b, off, e, hb, hc⟩ := hxc k hk
    exact ⟨b, off, e, (h.cell hb (fun h => h)).trans hc⟩
  clear hv hb hpl hdl hal hm hR k1 hx hxc
  generalize tb p = P at *
  generalize tb d = D at *
  by_cases h100 : 100 < ks.length
  · have h1 : (100 : Int) < (ks.length : Int) := by omega
    have A1 := hid (AW.out _ HK1.out)
    clear FA BX AW hl RI HXC
    go_enter Try.func5, Try.ntmps5
    go_wp2_with fail
    refine A1.out.mono ?_
    rintro e w2 ⟨rfl, hk2⟩
    have HB := hid (keep_bel (HK1.out.trans hk2))
    clear hk2 A1
    go_wp2
    go_ret
    exact ⟨rfl, HB.out⟩
  have h1 : decide ((100 : Int) < (ks.length : Int)) = false := decide_eq_false (by omega)
  clear hl
  go_enter Try.func5, Try.ntmps5
  go_wp2_with fail
  refine RI.out.mono ?_
  rintro e w1 ⟨A, u1, rfl, hI, hr, hk⟩
  obtain ⟨adA, capA, rfl⟩ := row_form hr
  have hAl : A.length ≤ 100 := Nat.le_trans hI.len (by omega)
  have HRA := hid hr
  have HI := hid hI
  have HKB := hid hk
  have HCA : Hid (∀ (k : Nat) (hk : k < A.length) (W : World), Keep (fun _ => False) w1 W → ∃ g, adA = some ⟨g, 0, none⟩ ∧ W.cell? ⟨g, k * 2, none⟩ = some (.string (tb A[k].1))) := fun k hk W hW => by
    have hr := hW.ownsRow hr (fun _ _ h => h)
    rcases hr.2 with ⟨e, h⟩ | ⟨g, c, cur, e, _⟩
    · omega
    · injection e with e1 e2 e3
      subst e1 e3
      exact ⟨g, rfl, grow_at hr (itC_get A k hk 0 (by omega))⟩
  have HK2 := hid (HK1.out.trans hk)
  have HNE : Hid (∀ j (hj : j + 1 < A.length), ((tb A[j].1).toList == (tb A[j + 1].1).toList) = false) := fun j hj => by
    show _ = _
    rw [tb_beq]
    refine decide_eq_false fun e => ?_
    have := List.pairwise_iff_getElem.1 hI.srt j (j + 1) (by omega) hj (by omega)
    rw [ItLt, e, WideAt.bytes_irrefl] at this
    cases this
  have HZ0 : Hid (∀ i (h : i < A.length), i < 0 → A[i].1 ≠ []) := fun i h hi => by omega
  clear RI hI hr hk h100
  go_wp2
  go_loopw [8] (fun i wr => ∃ k : Nat, k ≤ A.length ∧ i = .int .i64 k ∧ Hid (Keep (fun _ => False) w1 wr) ∧ Hid (∀ i (h : i < A.length), i < k → A[i].1 ≠ [])) (fun i _ => A.length - (intOf i).toNat)
  case atStart => exact ⟨0, by omega, rfl, Keep.refl _ _, HZ0⟩
  case round =>
    clear HZ0
    obtain ⟨k, hk, rfl, HK, HNN⟩ := hrel
    by_cases hlt : k < A.length
    · have hk0 : (0 : Int) ≤ (k : Int) := by omega
      have hk1 : (k : Int) < (A.length : Int) := by omega
      obtain ⟨g, e1, c0⟩ := HCA.out k hlt wr HK.out
      have HEM : Hid (A[k].1 ≠ [] → ∀ i (h : i < A.length), i < k + 1 → A[i].1 ≠ []) := fun hne i h hi => by
        by_cases e : i = k
        · subst e; exact hne
        · exact HNN.out i h (by omega)
      have HQE : Hid (((tb A[k].1).toList == []) = decide (A[k].1 = [])) := by
        show _ = _
        rw [tb_toList]
        cases A[k].1 <;> rfl
      have A1 := hid (fun n => AW.out (wr.drewN n) (HK2.out.trans (HK.out.trans (kp_drewN _ wr n))))
      have HKn := hid (fun n => HK.out.trans (kp_drewN (fun _ => False) wr n))
      have HBn := hid (fun n => HK2.out.trans (HK.out.trans (kp_drewN (fun _ => False) wr n)))
      by_cases hz : k = 0
      · subst hz
        subst e1
        have hpos : decide ((0 : Int) < ((0 : Nat) : Int)) = false := by decide
        by_cases hem : A[0].1 = []
        · have hqe : ((tb A[0].1).toList == []) = true := by rw [HQE.out, decide_eq_true hem]
          clear HCA HNE HI HRA AW FA BX HXC HNN HQE HEM HK HKn hem
          generalize tb A[0].1 = X1 at *
          go_wp2
          go_quiet (fail)
          have A2 := hid (A1.out nq)
          have HB2 := hid (HBn.out nq)
          clear A1 HBn
          go_wp2_with fail
          refine A2.out.mono ?_
          rintro e w6 ⟨rfl, hk6⟩
          have HB := hid (keep_bel (HB2.out.trans hk6))
          clear A2 hk6 HB2
          go_wp2
          go_ret
          exact ⟨rfl, HB.out⟩
        · have hqe : ((tb A[0].1).toList == []) = false := by rw [HQE.out, decide_eq_false hem]
          have HE2 := hid (HEM.out hem)
          clear HCA HNE HI HRA AW FA BX HXC HNN HQE HEM HK A1 HBn hem
          generalize tb A[0].1 = X1 at *
          go_wp2
          go_quiet (fail)
          have HK3 := hid (HKn.out nq)
          clear HKn
          go_wp2
          exact ⟨⟨0 + 1, by omega, by go_num, HK3, HE2⟩, by simp [intOf]; omega⟩
      · obtain ⟨j, rfl⟩ : ∃ j, k = j + 1 := ⟨k - 1, by omega⟩
        obtain ⟨g', e1', c1⟩ := HCA.out j (by omega) wr HK.out
        rw [e1] at e1'
        injection e1' with e1'
        injection e1' with e1'
        subst e1'
        subst e1
        have hne := HNE.out j hlt
        have hw1 : wrap64 (((j + 1 : Nat) : Int) - 1) = (j : Int) := by unfold wrap64; omega
        have hw2 : IntKind.i64.wrap (((j + 1 : Nat) : Int) - 1) = (j : Int) := by rw [IntKind.wrap_i64]; omega
        have hpos : decide ((0 : Int) < ((j + 1 : Nat) : Int)) = true := decide_eq_true (by omega)
        have hj0 : (0 : Int) ≤ (j : Int) := by omega
        have hj1 : (j : Int) < (A.length : Int) := by omega
        by_cases hem : A[j + 1].1 = []
        · have hqe : ((tb A[j + 1].1).toList == []) = true := by rw [HQE.out, decide_eq_true hem]
          clear HCA HNE HI HRA AW FA BX HXC HNN HQE HEM HK HKn hem
          generalize tb A[j + 1].1 = X1 at *
          generalize tb A[j].1 = X0 at *
          go_wp2
          go_quiet (fail)
          have A2 := hid (A1.out nq)
          have HB2 := hid (HBn.out nq)
          clear A1 HBn
          go_wp2_with fail
          refine A2.out.mono ?_
          rintro e w6 ⟨rfl, hk6⟩
          have HB := hid (keep_bel (HB2.out.trans hk6))
          clear A2 hk6 HB2
          go_wp2
          go_ret
          exact ⟨rfl, HB.out⟩
        · have hqe : ((tb A[j + 1].1).toList == []) = false := by rw [HQE.out, decide_eq_false hem]
          have HE2 := hid (HEM.out hem)
          clear HCA HNE HI HRA AW FA BX HXC HNN HQE HEM HK A1 HBn hem
          generalize tb A[j + 1].1 = X1 at *
          generalize tb A[j].1 = X0 at *
          go_wp2
          go_quiet (fail)
          have HK3 := hid (HKn.out nq)
          clear HKn
          go_wp2
          exact ⟨⟨j + 1 + 1, by omega, by go_num, HK3, HE2⟩, by simp [intOf]; omega⟩
    · have hd : decide ((k : Int) < (A.length : Int)) = false := decide_eq_false (by omega)
      have HALL : Hid (∀ x ∈ A, x.1 ≠ []) := fun x hx => by
        obtain ⟨i, hi, rfl⟩ := List.mem_iff_getElem.1 hx
        exact HNN.out i hi (by omega)
      have HPG : Hid (∀ m, m ≤ A.length → ∀ S, Its p d ks (fun n => bytesBefore (aft A m) n) S → S = A.drop m) := fun m hm S hS => by
        show _ = _
        rw [← page_drop HI.out.srt HALL.out m hm]
        exact hS.unique (HI.out.filter _) (fun _ => Iff.rfl)
      clear HNN HNE HCA HI HALL
      have HK5 := hid (HKB.out.trans HK.out)
      have HKw := hid (HK2.out.trans HK.out)
      have HRA5 := hid (HK.out.ownsRow HRA.out (fun _ _ h => h))
      clear HRA HK HKB HK2 HK1
      generalize hWB : wr = wB at *
      clear hWB
      have HG0 : Hid (wB.ownsRow wB.heap.size 39 2 (.slice none 0 0) 0 (itC (A.take 0))) := nil_row
      have HA0 : Hid (tb (aft A 0) = ⟨#[]⟩) := rfl
      go_wp2
      go_loopw [9, 10, 11] (fun o a i wr => ∃ (k m : Nat), k ≤ m ∧ m ≤ A.length ∧ (m < A.length ∨ k = 0) ∧ i = .int .i64 k ∧ a = .string (tb (aft A m)) ∧ (∃ ad cp, o = .slice ad m cp) ∧ Hid (wr.ownsRow wB.heap.size 39 2 o m (itC (A.take m))) ∧ Hid (Keep (fun _ => False) wB wr)) (fun _ _ i _ => A.length + 1 - (intOf i).toNat)
      case atStart => exact ⟨0, 0, Nat.le_refl _, Nat.zero_le _, .inr rfl, rfl, by rw [HA0.out], ⟨none, 0, rfl⟩, HG0, Keep.refl _ _⟩
      case round =>
        clear HG0 HA0
        obtain ⟨k, m, hkm, hm, hmk, rfl, rfl, ⟨ad1, cp1, rfl⟩, HG, HK⟩ := hrel
        have hkl : (k : Int) ≤ (A.length : Int) := by omega
        have hkA : k ≤ A.length := by omega
        by_cases hx0 : xs.length = 0
        · have hxd : decide ((0 : Int) < (xs.length : Int)) = false := decide_eq_false (by omega)
          have hxe : decide (0 < xs.length) = false := decide_eq_false (by omega)
          have hxf : ¬ 0 < xs.length := by omega
          clear HXC hx0
          have F1 := hid (FA.out (aft A m) 1 wr (HKw.out.trans HK.out))
          obtain ⟨c0, c1⟩ := BX.out wr (HK5.out.trans HK.out)
          have HAK : Hid (askN 1 = 1) := by show _ = _; unfold askN; omega
          have HS := hid (fun S hS => HPG.out m hm S hS)
          have HGR := hid HG.out
          clear FA BX HPG HG
          generalize hAF : tb (aft A m) = AF at *
          clear hAF
          go_wp2_with fail
          refine F1.out.mono ?_
          rintro e w3 ⟨S, u3, rfl, hI3, hr3, hk3⟩
          have e3 : S = A.drop m := HS.out S hI3
          subst e3
          rw [HAK.out] at hr3 ⊢
          obtain ⟨ad3, cap3, rfl⟩ := row_form hr3
          have hdl : (A.drop m).length = A.length - m := List.length_drop
          have htl : ((A.drop m).take 1).length = min 1 (A.length - m) := by rw [List.length_take, hdl]
          have HK3 := hid (HK.out.trans hk3)
          have HG3 := hid (hk3.ownsRow HGR.out (fun _ _ h => h))
          have HX3 := hid (gsrc_all hr3)
          have HB3 : Hid (wB.heap.size ≤ w3.heap.size) := HK3.out.size
          have HO3 := hid (itC_one ((A.drop m).take 1))
          have HR3 := hid hr3
          have HDJ3 : Hid (∀ g3 : Nat, ad3 = some ⟨g3, 0, none⟩ → (Value.slice ad1 m cp1).ownBlock = some g3 → False) := fun g3 e3 e => by
            have h1 := ownsRow_ge hr3 (g := g3) (by rw [e3]; rfl)
            have h2 := ownsRow_lt HGR.out e
            omega
          clear F1 HS HAK hI3 hr3 hk3 HGR HK
          by_cases hmore : m + 1 < A.length
          · have ht : ((A.drop m).take 1).length = 1 := by omega
            have hmo : decide (((A.drop m).take 1).length < (A.drop m).length) = true := decide_eq_true (by omega)
            rw [hmo]
            have HL3 : Hid ((itC ((A.drop m).take 1)).length = 1 * 2) := by show _ = _; rw [itC_len, ht]
            rw [ht] at HX3 HR3 ⊢
            obtain ⟨hlast, haft⟩ := page_last (A := A) (m := m) (n := 1) (by omega) hmore
            have HTK : Hid (itC (A.take m) ++ itC ((A.drop m).take 1) = itC (A.take (m + 1))) := by
              show _ = _
              rw [← itC_append, ← List.take_add]
            have HLC : Hid (∀ W, Keep (fun _ => False) w3 W → ∃ g3, ad3 = some ⟨g3, 0, none⟩ ∧ W.cell? ⟨g3, (1 - 1) * 2, none⟩ = some (.string (tb (aft A (m + 1))))) := fun W hW => by
              have hr := hW.ownsRow HR3.out (fun _ _ h => h)
              rcases hr.2 with ⟨e, h⟩ | ⟨g3, c3, cur3, e, _⟩
              · omega
              · injection e with e1 e2 e4
                subst e1 e4
                refine ⟨g3, rfl, grow_at hr ?_⟩
                obtain ⟨hlt3, hle3⟩ := List.getElem?_eq_some_iff.1 hlast
                have := itC_get ((A.drop m).take 1) (1 - 1) hlt3 0 (by omega)
                rw [hle3] at this
                rw [haft]
                exact this
            have N1 : Hid (m + 1 ≤ 70368744177) := by show _ ≤ _; omega
            have N2 : Hid ((m + 1) * 24 ≤ 140737488355328) := by show _ ≤ _; omega
            have FIN : Hid (∀ ad' cap' w', w'.ownsRow wB.heap.size 39 2 (.slice ad' (m + 1) cap') (m + 1) (itC (A.take m) ++ itC ((A.drop m).take 1)) → Keep (fun j => (Value.slice ad1 m cp1).ownBlock = some j) w3 w' → Hid (w'.ownsRow wB.heap.size 39 2 (.slice ad' (m + 1) cap') (m + 1) (itC (A.take (m + 1)))) ∧ Hid (Keep (fun _ => False) wB w')) := fun ad' cap' w' hr hk' => by
              refine ⟨?_, HK3.out.then hk' (fun j hj e => by have := ownsRow_ge HG3.out e; omega)⟩
              show World.ownsRow _ _ _ _ _ _ _
              rw [← HTK.out]; exact hr
            have HLD : Hid (∀ w', Keep (fun j => (Value.slice ad1 m cp1).ownBlock = some j) w3 w' → ∃ g3, ad3 = some ⟨g3, 0, none⟩ ∧ w'.cell? ⟨g3, (1 - 1) * 2, none⟩ = some (.string (tb (aft A (m + 1))))) := fun w' hk' => by
              obtain ⟨g3, e3, hc3⟩ := HLC.out w3 (Keep.refl _ _)
              refine ⟨g3, e3, ?_⟩
              have hg3 : g3 < w3.heap.size := World.block_lt_of_cell? w3 _ hc3
              have hgn : ¬ (Value.slice ad1 m cp1).ownBlock = some g3 := fun e => HDJ3.out g3 e3 e
              exact (hk'.cell hg3 hgn).trans hc3
            have hl2 : (m : Int) + 1 < (A.length : Int) := by omega
            have hnn : ((1 : Int) != 1) = false := by simp
            clear hmo ht hlast haft HTK HLC HDJ3 htl hdl HK3 HR3 AW
            go_wp2_with (at_builtin; refine wpl_gapp rfl _ _ elI rfl wB.heap.size (.slice ad1 m cp1) (.slice ad3 1 cap3) (itC (A.take m)) (itC ((A.drop m).take 1)) m 1 (m + 1) rfl rfl rfl HG3.out HB3.out HX3.out HL3.out HO3.out N1.out N2.out ?_; intro ad5 cap5 w5 hr5 hk5; obtain ⟨HG5, HK6⟩ := FIN.out ad5 cap5 w5 hr5 hk5; obtain ⟨g3, e3, c5⟩ := HLD.out w5 hk5; subst e3)
            clear hr5 hk5 FIN HLD HG3 HB3 HX3 HL3 HO3 N1 N2
            generalize hAF2 : tb (aft A (m + 1)) = AF2 at *
            have HAF2 := hid hAF2
            clear hAF2
            go_wp2
            exact ⟨⟨k + 1, m + 1, by omega, by omega, .inl hmore, by go_num, by rw [HAF2.out], ⟨_, _, rfl⟩, HG5, HK6⟩, by simp [intOf]; omega⟩
          · have ht : ((A.drop m).take 1).length = A.length - m := by omega
            have hmo : decide (((A.drop m).take 1).length < (A.drop m).length) = false := decide_eq_false (by omega)
            rw [hmo]
            have HL3 : Hid ((itC ((A.drop m).take 1)).length = (A.length - m) * 2) := by show _ = _; rw [itC_len, ht]
            rw [ht] at HX3 HR3 ⊢
            have HTK : Hid (itC (A.take m) ++ itC ((A.drop m).take 1) = itC A) := by
              show _ = _
              rw [← itC_append, List.take_of_length_le (l := A.drop m) (by rw [hdl]; omega), List.take_append_drop]
            have N0 : Hid (m + (A.length - m) = A.length) := by show _ = _; omega
            have N1 : Hid (A.length ≤ 70368744177) := by show _ ≤ _; omega
            have N2 : Hid (A.length * 24 ≤ 140737488355328) := by show _ ≤ _; omega
            have FIN : Hid (∀ ad' cap' w', w'.ownsRow wB.heap.size 39 2 (.slice ad' A.length cap') A.length (itC (A.take m) ++ itC ((A.drop m).take 1)) → Keep (fun j => (Value.slice ad1 m cp1).ownBlock = some j) w3 w' → Hid (Calls Try.prog 8 #[] w' fun e w'' => e = .returned (.bool true) ∧ Keep (fun _ => False) w' w'') ∧ Hid (∀ W, Keep (fun _ => False) w' W → Calls Try.prog 17 #[.slice ad' A.length cap', .slice adA A.length capA] W fun e w'' => e = .returned (.bool true) ∧ Keep (fun _ => False) W w'') ∧ Hid (Keep (fun _ => False) w w')) := fun ad' cap' w' hr hk' => by
              have kB : Keep (fun _ => False) wB w' := HK3.out.then hk' (fun j hj e => by have := ownsRow_ge HG3.out e; omega)
              refine ⟨AW.out w' (HKw.out.trans kB), fun W hW => ?_, HKw.out.trans kB⟩
              rw [HTK.out] at hr
              exact same12_true A _ _ W (gsrc_all (hW.ownsRow hr (fun _ _ h => h))) (gsrc_all ((kB.trans hW).ownsRow HRA5.out (fun _ _ h => h))) (by omega)
            have hl1 : decide ((A.length : Int) < (A.length : Int)) = false := decide_eq_false (by omega)
            have hl2 : (m : Int) + ((A.length - m : Nat) : Int) = (A.length : Int) := by omega
            clear hmo ht HTK HDJ3 htl hdl HK3 HR3 AW HRA5
            generalize A.length - m = q at *
            go_wp2_with (at_builtin; refine wpl_gapp rfl _ _ elI rfl wB.heap.size (.slice ad1 m cp1) (.slice ad3 q cap3) (itC (A.take m)) (itC ((A.drop m).take 1)) m q A.length N0.out rfl rfl HG3.out HB3.out HX3.out HL3.out HO3.out N1.out N2.out ?_; intro ad5 cap5 w5 hr5 hk5; obtain ⟨A5, S5, K5⟩ := FIN.out ad5 cap5 w5 hr5 hk5; clear hr5 hk5)
            refine A5.out.mono ?_
            rintro e w6 ⟨rfl, hk6⟩
            have S6 := hid (S5.out w6 hk6)
            have K6 := hid (K5.out.trans hk6)
            clear A5 S5 hk6 K5 FIN HG3 HB3 HX3 HL3 HO3 N0 N1 N2
            go_wp2_with fail
            refine S6.out.mono ?_
            rintro e w7 ⟨rfl, hk7⟩
            have HB := hid (keep_bel (K6.out.trans hk7))
            clear S6 hk7 K6
            go_wp2
            go_ret
            exact ⟨rfl, HB.out⟩

        · have hxd : (0 : Int) < (xs.length : Int) := by omega
          have hxz : ((xs.length : Int) == 0) = false := by rw [beq_eq_false_iff_ne]; omega
          have hxn : ¬ (xs.length : Int) = 0 := by omega
          have hxp : 0 < xs.length := by omega
          obtain ⟨b, off, ex, hcx0⟩ := HXC.out (k % xs.length) (Nat.mod_lt _ (by omega)) wr (HKw.out.trans HK.out)
          subst ex
          have hmod : (k : Int) % (xs.length : Int) = ((k % xs.length : Nat) : Int) := rfl
          have hmod2 : (k : Int).tmod (xs.length : Int) = ((k % xs.length : Nat) : Int) := rfl
          have hi1 : ((k % xs.length : Nat) : Int) < (xs.length : Int) := by have := Nat.mod_lt k (y := xs.length) (by omega); omega
          obtain ⟨x, hcx⟩ : ∃ x, wr.cell? ⟨b, off + k % xs.length, none⟩ = some (.int .i64 x) := ⟨_, hcx0⟩
          clear HXC hx0 hcx0
          obtain ⟨n, hn1, hn5, hw5, hw6, hw7⟩ := page_n x
          generalize k % xs.length = ix at *
          have hi0 : (0 : Int) ≤ (ix : Int) := by omega
          have F1 := hid (FA.out (aft A m) (n : Int) wr (HKw.out.trans HK.out))
          obtain ⟨c0, c1⟩ := BX.out wr (HK5.out.trans HK.out)
          have HAK : Hid (askN (n : Int) = n) := by show _ = _; unfold askN; omega
          have HS := hid (fun S hS => HPG.out m hm S hS)
          have HGR := hid HG.out
          clear FA BX HPG HG
          generalize hAF : tb (aft A m) = AF at *
          clear hAF
          go_wp2_with fail
          refine F1.out.mono ?_
          rintro e w3 ⟨S, u3, rfl, hI3, hr3, hk3⟩
          have e3 : S = A.drop m := HS.out S hI3
          subst e3
          rw [HAK.out] at hr3 ⊢
          obtain ⟨ad3, cap3, rfl⟩ := row_form hr3
          have hdl : (A.drop m).length = A.length - m := List.length_drop
          have htl : ((A.drop m).take n).length = min n (A.length - m) := by rw [List.length_take, hdl]
          have HK3 := hid (HK.out.trans hk3)
          have HG3 := hid (hk3.ownsRow HGR.out (fun _ _ h => h))
          have HX3 := hid (gsrc_all hr3)
          have HB3 : Hid (wB.heap.size ≤ w3.heap.size) := HK3.out.size
          have HO3 := hid (itC_one ((A.drop m).take n))
          have HR3 := hid hr3
          have HDJ3 : Hid (∀ g3 : Nat, ad3 = some ⟨g3, 0, none⟩ → (Value.slice ad1 m cp1).ownBlock = some g3 → False) := fun g3 e3 e => by
            have h1 := ownsRow_ge hr3 (g := g3) (by rw [e3]; rfl)
            have h2 := ownsRow_lt HGR.out e
            omega
          clear F1 HS HAK hI3 hr3 hk3 HGR HK
          by_cases hmore : m + n < A.length
          · have ht : ((A.drop m).take n).length = n := by omega
            have hmo : decide (((A.drop m).take n).length < (A.drop m).length) = true := decide_eq_true (by omega)
            rw [hmo]
            have HL3 : Hid ((itC ((A.drop m).take n)).length = n * 2) := by show _ = _; rw [itC_len, ht]
            rw [ht] at HX3 HR3 ⊢
            obtain ⟨hlast, haft⟩ := page_last (A := A) (m := m) (n := n) (by omega) hmore
            have HTK : Hid (itC (A.take m) ++ itC ((A.drop m).take n) = itC (A.take (m + n))) := by
              show _ = _
              rw [← itC_append, ← List.take_add]
            have HLC : Hid (∀ W, Keep (fun _ => False) w3 W → ∃ g3, ad3 = some ⟨g3, 0, none⟩ ∧ W.cell? ⟨g3, (n - 1) * 2, none⟩ = some (.string (tb (aft A (m + n))))) := fun W hW => by
              have hr := hW.ownsRow HR3.out (fun _ _ h => h)
              rcases hr.2 with ⟨e, h⟩ | ⟨g3, c3, cur3, e, _⟩
              · omega
              · injection e with e1 e2 e4
                subst e1 e4
                refine ⟨g3, rfl, grow_at hr ?_⟩
                obtain ⟨hlt3, hle3⟩ := List.getElem?_eq_some_iff.1 hlast
                have := itC_get ((A.drop m).take n) (n - 1) hlt3 0 (by omega)
                rw [hle3] at this
                rw [haft]
                exact this
            have N1 : Hid (m + n ≤ 70368744177) := by show _ ≤ _; omega
            have N2 : Hid ((m + n) * 24 ≤ 140737488355328) := by show _ ≤ _; omega
            have FIN : Hid (∀ ad' cap' w', w'.ownsRow wB.heap.size 39 2 (.slice ad' (m + n) cap') (m + n) (itC (A.take m) ++ itC ((A.drop m).take n)) → Keep (fun j => (Value.slice ad1 m cp1).ownBlock = some j) w3 w' → Hid (w'.ownsRow wB.heap.size 39 2 (.slice ad' (m + n) cap') (m + n) (itC (A.take (m + n)))) ∧ Hid (Keep (fun _ => False) wB w')) := fun ad' cap' w' hr hk' => by
              refine ⟨?_, HK3.out.then hk' (fun j hj e => by have := ownsRow_ge HG3.out e; omega)⟩
              show World.ownsRow _ _ _ _ _ _ _
              rw [← HTK.out]; exact hr
            have HLD : Hid (∀ w', Keep (fun j => (Value.slice ad1 m cp1).ownBlock = some j) w3 w' → ∃ g3, ad3 = some ⟨g3, 0, none⟩ ∧ w'.cell? ⟨g3, (n - 1) * 2, none⟩ = some (.string (tb (aft A (m + n))))) := fun w' hk' => by
              obtain ⟨g3, e3, hc3⟩ := HLC.out w3 (Keep.refl _ _)
              refine ⟨g3, e3, ?_⟩
              have hg3 : g3 < w3.heap.size := World.block_lt_of_cell? w3 _ hc3
              have hgn : ¬ (Value.slice ad1 m cp1).ownBlock = some g3 := fun e => HDJ3.out g3 e3 e
              exact (hk'.cell hg3 hgn).trans hc3
            have hl2 : (m : Int) + (n : Int) < (A.length : Int) := by omega
            have hnn : (((n : Int) : Int) != (n : Int)) = false := by simp
            clear hmo ht hlast haft HTK HLC HDJ3 htl hdl HK3 HR3 AW
            go_wp2_with (at_builtin; refine wpl_gapp rfl _ _ elI rfl wB.heap.size (.slice ad1 m cp1) (.slice ad3 n cap3) (itC (A.take m)) (itC ((A.drop m).take n)) m n (m + n) rfl rfl rfl HG3.out HB3.out HX3.out HL3.out HO3.out N1.out N2.out ?_; intro ad5 cap5 w5 hr5 hk5; obtain ⟨HG5, HK6⟩ := FIN.out ad5 cap5 w5 hr5 hk5; obtain ⟨g3, e3, c5⟩ := HLD.out w5 hk5; subst e3)
            clear hr5 hk5 FIN HLD HG3 HB3 HX3 HL3 HO3 N1 N2
            generalize hAF2 : tb (aft A (m + n)) = AF2 at *
            have HAF2 := hid hAF2
            clear hAF2
            go_wp2
            exact ⟨⟨k + 1, m + n, by omega, by omega, .inl hmore, by go_num, by rw [HAF2.out], ⟨_, _, rfl⟩, HG5, HK6⟩, by simp [intOf]; omega⟩
          · have ht : ((A.drop m).take n).length = A.length - m := by omega
            have hmo : decide (((A.drop m).take n).length < (A.drop m).length) = false := decide_eq_false (by omega)
            rw [hmo]
            have HL3 : Hid ((itC ((A.drop m).take n)).length = (A.length - m) * 2) := by show _ = _; rw [itC_len, ht]
            rw [ht] at HX3 HR3 ⊢
            have HTK : Hid (itC (A.take m) ++ itC ((A.drop m).take n) = itC A) := by
              show _ = _
              rw [← itC_append, List.take_of_length_le (l := A.drop m) (by rw [hdl]; omega), List.take_append_drop]
            have N0 : Hid (m + (A.length - m) = A.length) := by show _ = _; omega
            have N1 : Hid (A.length ≤ 70368744177) := by show _ ≤ _; omega
            have N2 : Hid (A.length * 24 ≤ 140737488355328) := by show _ ≤ _; omega
            have FIN : Hid (∀ ad' cap' w', w'.ownsRow wB.heap.size 39 2 (.slice ad' A.length cap') A.length (itC (A.take m) ++ itC ((A.drop m).take n)) → Keep (fun j => (Value.slice ad1 m cp1).ownBlock = some j) w3 w' → Hid (Calls Try.prog 8 #[] w' fun e w'' => e = .returned (.bool true) ∧ Keep (fun _ => False) w' w'') ∧ Hid (∀ W, Keep (fun _ => False) w' W → Calls Try.prog 17 #[.slice ad' A.length cap', .slice adA A.length capA] W fun e w'' => e = .returned (.bool true) ∧ Keep (fun _ => False) W w'') ∧ Hid (Keep (fun _ => False) w w')) := fun ad' cap' w' hr hk' => by
              have kB : Keep (fun _ => False) wB w' := HK3.out.then hk' (fun j hj e => by have := ownsRow_ge HG3.out e; omega)
              refine ⟨AW.out w' (HKw.out.trans kB), fun W hW => ?_, HKw.out.trans kB⟩
              rw [HTK.out] at hr
              exact same12_true A _ _ W (gsrc_all (hW.ownsRow hr (fun _ _ h => h))) (gsrc_all ((kB.trans hW).ownsRow HRA5.out (fun _ _ h => h))) (by omega)
            have hl1 : decide ((A.length : Int) < (A.length : Int)) = false := decide_eq_false (by omega)
            have hl2 : (m : Int) + ((A.length - m : Nat) : Int) = (A.length : Int) := by omega
            clear hmo ht HTK HDJ3 htl hdl HK3 HR3 AW HRA5
            generalize A.length - m = q at *
            go_wp2_with (at_builtin; refine wpl_gapp rfl _ _ elI rfl wB.heap.size (.slice ad1 m cp1) (.slice ad3 q cap3) (itC (A.take m)) (itC ((A.drop m).take n)) m q A.length N0.out rfl rfl HG3.out HB3.out HX3.out HL3.out HO3.out N1.out N2.out ?_; intro ad5 cap5 w5 hr5 hk5; obtain ⟨A5, S5, K5⟩ := FIN.out ad5 cap5 w5 hr5 hk5; clear hr5 hk5)
            refine A5.out.mono ?_
            rintro e w6 ⟨rfl, hk6⟩
            have S6 := hid (S5.out w6 hk6)
            have K6 := hid (K5.out.trans hk6)
            clear A5 S5 hk6 K5 FIN HG3 HB3 HX3 HL3 HO3 N0 N1 N2
            go_wp2_with fail
            refine S6.out.mono ?_
            rintro e w7 ⟨rfl, hk7⟩
            have HB := hid (keep_bel (K6.out.trans hk7))
            clear S6 hk7 K6
            go_wp2
            go_ret
            exact ⟨rfl, HB.out⟩

end Go.Proofs.Ytimdnddplhkdlaa
