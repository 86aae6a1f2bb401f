/- The document's items: one is laid among others. -/
import Derived.Test.YtimdnddplhkdlaaNmT
import Derived.BigRegion
import Derived.Deep.RegionHeld3
import Derived.Deep.RegionLaw
namespace Go.Proofs.Ytimdnddplhkdlaa
open Go.RowKit Go.Shelf Go.Maps
set_option linter.unusedVariables false
set_option linter.unusedSimpArgs false

theorem elR : ElT 30 38 2 24 := ⟨Try.underlying30, ⟨.agg #[.string ⟨#[]⟩, .bool false], by kernel_rfl, rfl⟩, by decide⟩
theorem tb_less (a b : Bs) : Op.bytesLess (tb a).toList (tb b).toList = bytesBefore a b := by
  have less_bef : ∀ a b : List UInt8, Op.bytesLess a b = bytesBefore a b := by
    intro a
    induction a with
    | nil => intro b; cases b <;> rfl
    | cons x r ih => intro b; cases b with
      | nil => rfl
      | cons y s => simp only [Op.bytesLess, bytesBefore, ih]
  rw [tb_toList, tb_toList, less_bef]
theorem tb_beq (a b : Bs) : ((tb a).toList == (tb b).toList) = decide (a = b) := by
  rw [tb_toList, tb_toList, Bool.eq_iff_iff, beq_iff_eq, decide_eq_true_iff]
set_option maxRecDepth 100000 in
set_option maxHeartbeats 2000000 in
/-- where the names tell items apart, one stands ahead of another by its name -/
theorem rless_any (y x : It) (w : World) (h : y.1 = x.1 → y = x) : Calls Try.prog 39 #[.agg #[.string (tb y.1), .bool y.2], .agg #[.string (tb x.1), .bool x.2]] w fun e w' => e = .returned (.bool (bytesBefore y.1 x.1)) ∧ Keep (fun _ => False) w w' := by
  have hL := tb_less y.1 x.1
  have hE := tb_beq y.1 x.1
  have HK : Hid (∀ X Y, Keep (fun _ => False) w ((w.alloc X).alloc Y)) := fun X Y => (keep_alloc _ _ _).trans (keep_alloc _ _ _)
  have hf : y.1 = x.1 → y.2 = x.2 := fun e => by rw [h e]
  have hir : y.1 = x.1 → bytesBefore y.1 x.1 = false := fun e => by rw [e]; exact WideAt.bytes_irrefl _
  clear h
  obtain ⟨y1, y2⟩ := y
  obtain ⟨x1, x2⟩ := x
  simp only at hL hE hf hir ⊢
  generalize bytesBefore y1 x1 = b at *
  generalize tb y1 = Y at *
  generalize tb x1 = X at *
  by_cases e : y1 = x1
  · have e2 := hf e
    have e3 := hir e
    subst e2 e3
    rw [decide_eq_true e] at hE
    clear hf hir e
    cases y2 with
    | true =>
      go_enter Try.func39, Try.ntmps39
      go_wp2
      go_ret
      exact ⟨rfl, HK.out _ _⟩
    | false =>
      go_enter Try.func39, Try.ntmps39
      go_wp2
      go_ret
      exact ⟨rfl, HK.out _ _⟩
  · rw [decide_eq_false e] at hE
    clear hf hir e
    cases b with
    | true =>
      go_enter Try.func39, Try.ntmps39
      go_wp2
      go_ret
      exact ⟨rfl, HK.out _ _⟩
    | false =>
      go_enter Try.func39, Try.ntmps39
      go_wp2
      go_ret
      exact ⟨rfl, HK.out _ _⟩
theorem insI_at (x : It) : ∀ (l : List It) (a : Nat), a ≤ l.length → (∀ i (h : i < l.length), i < a → bytesBefore l[i].1 x.1 = true) → (∀ h : a < l.length, bytesBefore l[a].1 x.1 = false) → (∀ h : a < l.length, l[a] = x → insI x l = l) ∧ ((∀ h : a < l.length, l[a] ≠ x) → insI x l = l.take a ++ ([x] ++ l.drop a))
  | [], a, ha, _, _ => by
    have : a = 0 := by simpa using ha
    subst this
    exact ⟨fun h => by simp at h, fun _ => rfl⟩
  | y :: r, 0, _, _, h2 => by
    have hy := h2 (by simp)
    simp at hy
    unfold insI
    rw [hy]
    refine ⟨fun h e => ?_, fun h => ?_⟩
    · have e : y = x := by simpa using e
      simp [e]
    · have e : y ≠ x := h (by simp)
      simp [e]
  | y :: r, a + 1, ha, h1, h2 => by
    have hy := h1 0 (by simp) (by omega)
    simp at hy
    have ih := insI_at x r a (by simpa using ha) (fun i h hi => h1 (i + 1) (by simpa using h) (by omega)) (fun h => h2 (by simpa using h))
    unfold insI
    rw [hy]
    refine ⟨fun h e => ?_, fun h => ?_⟩
    · have := ih.1 (by simpa using h) (by simpa using e)
      simp [this]
    · have := ih.2 (fun h' => h (by simpa using h'))
      simp [this]
theorem sl_to (g n cap k : Nat) (hk : k ≤ n) (hn : n ≤ cap) (W : World) : (Instr.slice 30 (.slice (some ⟨g, 0, none⟩) n cap) none (some (.int .i64 (k : Int))) none).run Try.prog W = .ok (.slice (some ⟨g, 0, none⟩) k cap) W := by
  obtain ⟨z, hz, _⟩ := elR.inf
  obtain ⟨i0, hi, _⟩ := Option.map_eq_some_iff.1 hz
  have e1 : (0 : Int) ≤ (k : Int) := by omega
  have e2 : k ≤ cap := by omega
  have e3 : (⟨g, 0, none⟩ : Addr).add 0 = ⟨g, 0, none⟩ := rfl
  simp [Instr.slice, Instr.sliceBounds, Instr.sliceBound, asIntOf, run_underlying elR.und, sizeOf, typeInfo, hi, Result.andThen, e1, e2, e3]
theorem itC_append (a b : List It) : itC (a ++ b) = itC a ++ itC b := by simp [itC]
theorem itC_takeE (l : List It) (k : Nat) : itC (l.take k) = (itC l).take (k * 2) := by
  by_cases h : k ≤ l.length
  · have e : itC l = itC (l.take k) ++ itC (l.drop k) := by rw [← itC_append, List.take_append_drop]
    rw [e, List.take_left' (by rw [itC_len, List.length_take]; omega)]
  · rw [List.take_of_length_le (by omega), List.take_of_length_le (by rw [itC_len]; omega)]
theorem itC_dropE (l : List It) (k : Nat) : itC (l.drop k) = (itC l).drop (k * 2) := by
  by_cases h : k ≤ l.length
  · have e : itC l = itC (l.take k) ++ itC (l.drop k) := by rw [← itC_append, List.take_append_drop]
    rw [e, List.drop_left' (by rw [itC_len, List.length_take]; omega)]
  · rw [List.drop_of_length_le (by omega), List.drop_of_length_le (by rw [itC_len]; omega)]
    rfl
set_option maxRecDepth 100000 in
set_option maxHeartbeats 4000000 in
theorem rwith_any (l : List It) (x : It) (B : Nat) (v : Value) (w : World) (hv : w.ownsRow B 38 2 v l.length (itC l)) (hB : B ≤ w.heap.size) (hx : ∀ y ∈ l, y.1 = x.1 → y = x) (hl : l.length ≤ 1048576) :
    Calls Try.prog 31 #[v, .agg #[.string (tb x.1), .bool x.2]] w fun e w' => ∃ u, e = .returned u ∧ w'.ownsRow B 38 2 u (insI x l).length (itC (insI x l)) ∧ Keep (fun _ => False) w w' := by
  obtain ⟨ad, cap, rfl⟩ := row_form hv
  have kA := keep_alloc (fun _ => False) w (.cells #[.string (tb x.1), .bool x.2] 38)
  have hR : RowIs (w.alloc (.cells #[.string (tb x.1), .bool x.2] 38)) w.heap.size [.string (tb x.1), .bool x.2] 38 := heap_alloc_new _ _
  have HC : Hid (∀ (k : Nat) (hk : k < l.length) (W : World), Keep (fun _ => False) w W → ∃ g, ad = some ⟨g, 0, none⟩ ∧ W.cell? ⟨g, k * 2, none⟩ = some (.string (tb l[k].1)) ∧ W.cell? ⟨g, k * 2 + 1, none⟩ = some (.bool l[k].2)) := fun k hk W hW => by
    have hr := hW.ownsRow hv (fun _ _ h => h)
    rcases hr.2 with ⟨e, h⟩ | ⟨g, c, cur, e, _⟩
    · omega
    · injection e with e1 e2 e3
      subst e1 e3
      have h0 := itC_get l k hk 0 (by omega)
      have h1 := itC_get l k hk 1 (by omega)
      exact ⟨g, rfl, grow_at hr h0, grow_at hr h1⟩
  have HX : Hid (∀ W, Keep (fun _ => False) (w.alloc (.cells #[.string (tb x.1), .bool x.2] 38)) W → W.cell? ⟨w.heap.size, 0, none⟩ = some (.string (tb x.1)) ∧ W.cell? ⟨w.heap.size, 1, none⟩ = some (.bool x.2)) := fun W hW => by
    have := hR.keep hW (fun h => h)
    exact ⟨this.cellAt rfl, this.cellAt rfl⟩
  have LS : Hid (∀ (k : Nat) (hk : k < l.length) (W : World), Calls Try.prog 39 #[.agg #[.string (tb l[k].1), .bool l[k].2], .agg #[.string (tb x.1), .bool x.2]] W fun e w' => e = .returned (.bool (bytesBefore l[k].1 x.1)) ∧ Keep (fun _ => False) W w') := fun k hk W => rless_any l[k] x W (hx _ (List.getElem_mem hk))
  have HKA := hid kA
  have HV := hid hv
  clear kA hR hx hv
  have HB0 : Hid (∀ i (h : i < l.length), i < 0 → bytesBefore l[i].1 x.1 = true) := fun i h hi => by omega
  go_enter Try.func31, Try.ntmps31
  go_wp2
  go_loopw [5] (fun i wr => ∃ k : Nat, k ≤ l.length ∧ i = .int .i64 k ∧ Hid (Keep (fun _ => False) (w.alloc (.cells #[.string (tb x.1), .bool x.2] 38)) wr) ∧ Hid (∀ i (h : i < l.length), i < k → bytesBefore l[i].1 x.1 = true)) (fun i _ => l.length - (intOf i).toNat)
  case atStart => exact ⟨0, by omega, rfl, Keep.refl _ _, HB0⟩
  case round =>
    clear HB0
    obtain ⟨k, hk, rfl, HK, HBF⟩ := hrel
    by_cases hlt : k < l.length
    · have hk0 : (0 : Int) ≤ (k : Int) := by omega
      have hk1 : (k : Int) < (l.length : Int) := by omega
      obtain ⟨g, e1, c0, c1⟩ := HC.out k hlt wr (HKA.out.trans HK.out)
      obtain ⟨d0, d1⟩ := HX.out wr HK.out
      have LK := hid (fun W => LS.out k hlt W)
      have HS : Hid (∀ b : Bool, bytesBefore l[k].1 x.1 = b → b = true → ∀ i (h : i < l.length), i < k + 1 → bytesBefore l[i].1 x.1 = true) := fun b hb hb2 i h hi => by
        by_cases e : i = k
        · subst e; rw [hb, hb2]
        · exact HBF.out i h (by omega)
      have K0 := hid (Keep.refl (fun _ => False) wr)
      have KD := hid (keep_drew (fun _ => False) wr)
      have LK2 : Hid (∀ W, Keep (fun _ => False) wr W → Calls Try.prog 39 #[.agg #[.string (tb l[k].1), .bool l[k].2], .agg #[.string (tb x.1), .bool x.2]] W fun e w' => e = .returned (.bool (bytesBefore l[k].1 x.1)) ∧ (w'.cell? ⟨g, k * 2, none⟩ = some (.string (tb l[k].1)) ∧ w'.cell? ⟨g, k * 2 + 1, none⟩ = some (.bool l[k].2) ∧ w'.cell? ⟨w.heap.size, 0, none⟩ = some (.string (tb x.1)) ∧ w'.cell? ⟨w.heap.size, 1, none⟩ = some (.bool x.2)) ∧ Hid (Keep (fun _ => False) (w.alloc (.cells #[.string (tb x.1), .bool x.2] 38)) w')) := fun W hW => (LK.out W).mono fun e w' ⟨he, hk'⟩ => by
        have k2 := HK.out.trans (hW.trans hk')
        obtain ⟨g', e1', c0', c1'⟩ := HC.out k hlt w' (HKA.out.trans k2)
        rw [e1] at e1'
        injection e1' with e1'
        injection e1' with e1'
        subst e1'
        obtain ⟨d0', d1'⟩ := HX.out w' k2
        exact ⟨he, ⟨c0', c1', d0', d1'⟩, k2⟩
      have HQ : Hid (∀ W, (binOp .eql 38 (.agg #[.string (tb l[k].1), .bool l[k].2]) (.agg #[.string (tb x.1), .bool x.2])).run Try.prog W = .ok (.bool (decide (l[k] = x))) W) := fun W => by
        show _ = _
        rw [eql38, tb_beq]
        congr 2
        obtain ⟨y1, y2⟩ := l[k]
        obtain ⟨x1, x2⟩ := x
        rw [Bool.eq_iff_iff]
        simp
      have hins : Hid (bytesBefore l[k].1 x.1 = false → (decide (l[k] = x) = true → insI x l = l) ∧ (decide (l[k] = x) = false → insI x l = l.take k ++ ([x] ++ l.drop k))) := fun hb => by
        have := insI_at x l k hk HBF.out (fun _ => hb)
        exact ⟨fun h => this.1 hlt (of_decide_eq_true h), fun h => this.2 (fun _ => of_decide_eq_false h)⟩
      subst e1
      clear HC LS HBF LK
      have hg38 := guard38
      generalize decide (l[k] = x) = q at *
      generalize bytesBefore l[k].1 x.1 = b at *
      generalize tb l[k].1 = Y at *
      generalize l[k].2 = Y2 at *
      go_wp2
      go_region_held3 (fun w' => w'.cell? ⟨g, k * 2, none⟩ = some (.string Y) ∧ w'.cell? ⟨g, k * 2 + 1, none⟩ = some (.bool Y2) ∧ w'.cell? ⟨w.heap.size, 0, none⟩ = some (.string (tb x.1)) ∧ w'.cell? ⟨w.heap.size, 1, none⟩ = some (.bool x.2)) (first | exact ⟨c0, c1, d0, d1⟩ | assumption | go_keep) ((go_at_call 39; with_reducible (refine (LK2.out _ ?_).mono ?_); (first | exact K0.out | exact KD.out); rintro e w2 ⟨rfl, hS2, HK2⟩))
      all_goals
        clear LK2 K0 KD HK c0 c1 d0 d1
        cases b with
        | true =>
          have HS2 := hid (HS.out true rfl rfl)
          clear HS
          go_wp2
          exact ⟨⟨k + 1, by omega, by go_num, HK2, HS2⟩, by simp [intOf]; omega⟩
        | false =>
          obtain ⟨c0, c1, d0, d1⟩ := hS2
          clear HS
          cases q with
          | true =>
            have HIN := hid ((hins.out rfl).1 rfl)
            have hq := fun W => HQ.out W
            clear HQ hins
            go_wp2
            go_quiet (fail)
            have HF : Hid ((w2.drewN nq).ownsRow B 38 2 (.slice (some ⟨g, 0, none⟩) l.length cap) (insI x l).length (itC (insI x l)) ∧ Keep (fun _ => False) w (w2.drewN nq)) := by
              have k9 := (HKA.out.trans HK2.out).trans (kp_drewN (fun _ => False) w2 nq)
              refine ⟨?_, k9⟩
              rw [HIN.out]
              exact k9.ownsRow HV.out (fun _ _ h => h)
            clear HK2 HV HKA HX
            go_wp2
            go_ret
            exact ⟨_, rfl, HF.out⟩
          | false =>
            have HIN := hid ((hins.out rfl).2 rfl)
            have hq := fun W => HQ.out W
            clear HQ hins
            go_wp2
            go_quiet (fail)
            have HKq := hid (HK2.out.trans (kp_drewN (fun _ => False) w2 nq))
            clear HK2 c0 c1 d0 d1 hq
            generalize w2.drewN nq = w4 at *
            have HX4 := HX.out w4 HKq.out
            have d0 := HX4.1
            have d1 := HX4.2
            have HV4 := hid ((HKA.out.trans HKq.out).ownsRow HV.out (fun _ _ h => h))
            obtain ⟨x1, hG1, hr1⟩ := gsrc_to elR HV4.out k hk
            obtain ⟨x3, hG3, hr3⟩ := gsrc_from elR HV4.out k hk
            have HG1 := hid hG1
            have HG3 := hid hG3
            have HR1 := hid hr1
            have HR3 := hid hr3
            have HT1 : Hid (itC (l.take k) = (itC l).take (k * 2)) := itC_takeE l k
            have HT3 : Hid (itC (l.drop k) = (itC l).drop (k * 2)) := itC_dropE l k
            have HL1 : Hid (((itC l).take (k * 2)).length = k * 2) := by show _ = _; rw [← HT1.out, itC_len, List.length_take]; congr 1; omega
            have HL3 : Hid (((itC l).drop (k * 2)).length = (l.length - k) * 2) := by show _ = _; rw [← HT3.out, itC_len, List.length_drop]
            have HO1 : Hid (∀ u ∈ (itC l).take (k * 2), u.oneCell' = true) := fun u hu => itC_one l u (List.mem_of_mem_take hu)
            have HO3 : Hid (∀ u ∈ (itC l).drop (k * 2), u.oneCell' = true) := fun u hu => itC_one l u (List.mem_of_mem_drop hu)
            have HO2 := hid (itC1_one x)
            have N1 : Hid (k ≤ 70368744177) := by show _ ≤ _; omega
            have N2 : Hid (k * 24 ≤ 140737488355328) := by show _ ≤ _; omega
            have N3 : Hid (k + 1 ≤ 70368744177) := by show _ ≤ _; omega
            have N4 : Hid ((k + 1) * 24 ≤ 140737488355328) := by show _ ≤ _; omega
            have N5 : Hid (l.length + 1 ≤ 70368744177) := by show _ ≤ _; omega
            have N6 : Hid ((l.length + 1) * 24 ≤ 140737488355328) := by show _ ≤ _; omega
            have N7 : Hid (k + 1 + (l.length - k) = l.length + 1) := by show _ = _; omega
            have N0 : Hid (0 + k = k) := Nat.zero_add k
            have F1 : Hid (∀ ad1 cap1 w3, w3.ownsRow w4.heap.size 38 2 (.slice ad1 k cap1) k ([] ++ (itC l).take (k * 2)) → Keep (fun j => (Value.slice none 0 0).ownBlock = some j) w4 w3 → (w3.cell? ⟨w.heap.size, 0, none⟩ = some (.string (tb x.1)) ∧ w3.cell? ⟨w.heap.size, 1, none⟩ = some (.bool x.2)) ∧ Hid (Keep (fun _ => False) w4 w3) ∧ Hid ((w3.alloc (.cells #[.string (tb x.1), .bool x.2] 38)).ownsRow w4.heap.size 38 2 (.slice ad1 k cap1) k ((itC l).take (k * 2))) ∧ Hid (GSrc (w3.alloc (.cells #[.string (tb x.1), .bool x.2] 38)) (.slice (some ⟨w3.heap.size, 0, none⟩) 1 1) 1 (itC1 x)) ∧ Hid (w4.heap.size ≤ (w3.alloc (.cells #[.string (tb x.1), .bool x.2] 38)).heap.size)) := fun ad1 cap1 w3 hr hk' => by
              have hk2 : Keep (fun _ => False) w4 w3 := hk'.mono (fun j _ e => by simp [Value.ownBlock] at e)
              exact ⟨HX.out w3 (HKq.out.trans hk2), hk2, (keep_alloc (fun _ => False) _ _).ownsRow (by rw [List.nil_append] at hr; exact hr) (fun _ _ h => h), gsrc_block (cs := itC1 x) (heap_alloc_new _ _), Nat.le_trans hk2.size (keep_alloc (fun _ => False) _ _).size⟩
            have F2 : Hid (∀ ad1 cap1 w3 w5, Hid (Keep (fun _ => False) w4 w3) → Hid ((w3.alloc (.cells #[.string (tb x.1), .bool x.2] 38)).ownsRow w4.heap.size 38 2 (.slice ad1 k cap1) k ((itC l).take (k * 2))) → Keep (fun j => (Value.slice ad1 k cap1).ownBlock = some j) (w3.alloc (.cells #[.string (tb x.1), .bool x.2] 38)) w5 → Hid (Keep (fun _ => False) w4 w5) ∧ Hid (GSrc w5 x3 (l.length - k) ((itC l).drop (k * 2))) ∧ Hid (w4.heap.size ≤ w5.heap.size)) := fun ad1 cap1 w3 w5 h1 h2 hk' => by
              have hk2 : Keep (fun _ => False) w4 w5 := (h1.out.trans (keep_alloc _ _ _)).then hk' (fun j hj e => by have := ownsRow_ge h2.out e; omega)
              exact ⟨hk2, HG3.out.keep _ hk2 (fun _ _ h => h), hk2.size⟩
            have F3 : Hid (∀ ad2 cap2 w5 ad3 cap3 w6, Hid (Keep (fun _ => False) w4 w5) → w5.ownsRow w4.heap.size 38 2 (.slice ad2 (k + 1) cap2) (k + 1) ((itC l).take (k * 2) ++ itC1 x) → w6.ownsRow w4.heap.size 38 2 (.slice ad3 (l.length + 1) cap3) (l.length + 1) ((itC l).take (k * 2) ++ itC1 x ++ (itC l).drop (k * 2)) → Keep (fun j => (Value.slice ad2 (k + 1) cap2).ownBlock = some j) w5 w6 → insI x l = l.take k ++ ([x] ++ l.drop k) → w6.ownsRow B 38 2 (.slice ad3 (l.length + 1) cap3) (insI x l).length (itC (insI x l)) ∧ Keep (fun _ => False) w w6) := fun ad2 cap2 w5 ad3 cap3 w6 h1 h2 h3 hk' he => by
              refine ⟨?_, (HKA.out.trans (HKq.out.trans h1.out)).then hk' (fun j hj e => by have := ownsRow_ge h2 e; have := (HKA.out.trans HKq.out).size; omega)⟩
              rw [he]
              have e1 : (l.take k ++ ([x] ++ l.drop k)).length = l.length + 1 := by simp; omega
              have e2 : itC (l.take k ++ ([x] ++ l.drop k)) = (itC l).take (k * 2) ++ itC1 x ++ (itC l).drop (k * 2) := by
                rw [← HT1.out, ← HT3.out]
                simp [itC]
              rw [e1, e2]
              exact ownsRow_base h3 (Nat.le_trans hB (HKA.out.trans HKq.out).size)
            have hr1 := HR1.out
            have hr3 := HR3.out
            clear HV HV4 HX HKA HKq HT1 HT3 HR1 HR3 HG3 HX4
            go_wp2_with (first | (at_builtin; refine wpl_gapp rfl _ _ elR rfl w4.heap.size (.slice ad2 (k + 1) cap2) x3 ((itC l).take (k * 2) ++ itC1 x) ((itC l).drop (k * 2)) (k + 1) (l.length - k) (l.length + 1) N7.out rfl rfl HRw5.out HSw5.out HGw5.out HL3.out HO3.out N5.out N6.out ?_; intro ad3 cap3 w6 hr6 hk6; have HFIN := hid (F3.out ad2 cap2 w5 ad3 cap3 w6 HKw5 HRw5.out hr6 hk6); clear hr6 hk6) | (at_builtin; refine wpl_gapp rfl _ _ elR rfl w4.heap.size (.slice ad1 k cap1) _ ((itC l).take (k * 2)) (itC1 x) k 1 (k + 1) rfl rfl rfl HRw3.out HSw3.out HGw3.out rfl HO2.out N3.out N4.out ?_; intro ad2 cap2 w5 hr5 hk5; obtain ⟨HKw5, HGw5, HSw5⟩ := F2.out ad1 cap1 w3 w5 HKw3 HRw3 hk5; have HRw5 := hid hr5; clear hr5 hk5) | (at_builtin; refine wpl_gapp rfl _ _ elR rfl w4.heap.size (.slice none 0 0) x1 [] ((itC l).take (k * 2)) 0 k k N0.out rfl rfl nil_row (Nat.le_refl _) HG1.out HL1.out HO1.out N1.out N2.out ?_; intro ad1 cap1 w3 hr3 hk3; obtain ⟨⟨d0, d1⟩, HKw3, HRw3, HGw3, HSw3⟩ := F1.out ad1 cap1 w3 hr3 hk3; clear hr3 hk3))
            have HF := hid (HFIN.out HIN.out)
            clear HFIN
            go_wp2
            go_ret
            exact ⟨_, rfl, HF.out⟩
    · have hd : decide ((k : Int) < (l.length : Int)) = false := decide_eq_false (by omega)
      have HIN : Hid (insI x l = l.take k ++ ([x] ++ l.drop k)) := (insI_at x l k hk HBF.out (fun h => absurd h hlt)).2 (fun h => absurd h hlt)
      clear HC LS HBF
      go_wp2
      go_quiet (fail)
      have HK1 := hid (HK.out.trans (kp_drewN (fun _ => False) wr nq))
      clear HK
      generalize wr.drewN nq = w1 at *
      go_wp2
      go_quiet (fail)
      have HKq := hid (HK1.out.trans (kp_drewN (fun _ => False) w1 nq))
      clear HK1
      generalize w1.drewN nq = w4 at *
      have HX4 := HX.out w4 HKq.out
      have d0 := HX4.1
      have d1 := HX4.2
      have HV4 := hid ((HKA.out.trans HKq.out).ownsRow HV.out (fun _ _ h => h))
      obtain ⟨x1, hG1, hr1⟩ := gsrc_to elR HV4.out k hk
      obtain ⟨x3, hG3, hr3⟩ := gsrc_from elR HV4.out k hk
      have HG1 := hid hG1
      have HG3 := hid hG3
      have HR1 := hid hr1
      have HR3 := hid hr3
      have HT1 : Hid (itC (l.take k) = (itC l).take (k * 2)) := itC_takeE l k
      have HT3 : Hid (itC (l.drop k) = (itC l).drop (k * 2)) := itC_dropE l k
      have HL1 : Hid (((itC l).take (k * 2)).length = k * 2) := by show _ = _; rw [← HT1.out, itC_len, List.length_take]; congr 1; omega
      have HL3 : Hid (((itC l).drop (k * 2)).length = (l.length - k) * 2) := by show _ = _; rw [← HT3.out, itC_len, List.length_drop]
      have HO1 : Hid (∀ u ∈ (itC l).take (k * 2), u.oneCell' = true) := fun u hu => itC_one l u (List.mem_of_mem_take hu)
      have HO3 : Hid (∀ u ∈ (itC l).drop (k * 2), u.oneCell' = true) := fun u hu => itC_one l u (List.mem_of_mem_drop hu)
      have HO2 := hid (itC1_one x)
      have N1 : Hid (k ≤ 70368744177) := by show _ ≤ _; omega
      have N2 : Hid (k * 24 ≤ 140737488355328) := by show _ ≤ _; omega
      have N3 : Hid (k + 1 ≤ 70368744177) := by show _ ≤ _; omega
      have N4 : Hid ((k + 1) * 24 ≤ 140737488355328) := by show _ ≤ _; omega
      have N5 : Hid (l.length + 1 ≤ 70368744177) := by show _ ≤ _; omega
      have N6 : Hid ((l.length + 1) * 24 ≤ 140737488355328) := by show _ ≤ _; omega
      have N7 : Hid (k + 1 + (l.length - k) = l.length + 1) := by show _ = _; omega
      have N0 : Hid (0 + k = k) := Nat.zero_add k
      have F1 : Hid (∀ ad1 cap1 w3, w3.ownsRow w4.heap.size 38 2 (.slice ad1 k cap1) k ([] ++ (itC l).take (k * 2)) → Keep (fun j => (Value.slice none 0 0).ownBlock = some j) w4 w3 → (w3.cell? ⟨w.heap.size, 0, none⟩ = some (.string (tb x.1)) ∧ w3.cell? ⟨w.heap.size, 1, none⟩ = some (.bool x.2)) ∧ Hid (Keep (fun _ => False) w4 w3) ∧ Hid ((w3.alloc (.cells #[.string (tb x.1), .bool x.2] 38)).ownsRow w4.heap.size 38 2 (.slice ad1 k cap1) k ((itC l).take (k * 2))) ∧ Hid (GSrc (w3.alloc (.cells #[.string (tb x.1), .bool x.2] 38)) (.slice (some ⟨w3.heap.size, 0, none⟩) 1 1) 1 (itC1 x)) ∧ Hid (w4.heap.size ≤ (w3.alloc (.cells #[.string (tb x.1), .bool x.2] 38)).heap.size)) := fun ad1 cap1 w3 hr hk' => by
        have hk2 : Keep (fun _ => False) w4 w3 := hk'.mono (fun j _ e => by simp [Value.ownBlock] at e)
        exact ⟨HX.out w3 (HKq.out.trans hk2), hk2, (keep_alloc (fun _ => False) _ _).ownsRow (by rw [List.nil_append] at hr; exact hr) (fun _ _ h => h), gsrc_block (cs := itC1 x) (heap_alloc_new _ _), Nat.le_trans hk2.size (keep_alloc (fun _ => False) _ _).size⟩
      have F2 : Hid (∀ ad1 cap1 w3 w5, Hid (Keep (fun _ => False) w4 w3) → Hid ((w3.alloc (.cells #[.string (tb x.1), .bool x.2] 38)).ownsRow w4.heap.size 38 2 (.slice ad1 k cap1) k ((itC l).take (k * 2))) → Keep (fun j => (Value.slice ad1 k cap1).ownBlock = some j) (w3.alloc (.cells #[.string (tb x.1), .bool x.2] 38)) w5 → Hid (Keep (fun _ => False) w4 w5) ∧ Hid (GSrc w5 x3 (l.length - k) ((itC l).drop (k * 2))) ∧ Hid (w4.heap.size ≤ w5.heap.size)) := fun ad1 cap1 w3 w5 h1 h2 hk' => by
        have hk2 : Keep (fun _ => False) w4 w5 := (h1.out.trans (keep_alloc _ _ _)).then hk' (fun j hj e => by have := ownsRow_ge h2.out e; omega)
        exact ⟨hk2, HG3.out.keep _ hk2 (fun _ _ h => h), hk2.size⟩
      have F3 : Hid (∀ ad2 cap2 w5 ad3 cap3 w6, Hid (Keep (fun _ => False) w4 w5) → w5.ownsRow w4.heap.size 38 2 (.slice ad2 (k + 1) cap2) (k + 1) ((itC l).take (k * 2) ++ itC1 x) → w6.ownsRow w4.heap.size 38 2 (.slice ad3 (l.length + 1) cap3) (l.length + 1) ((itC l).take (k * 2) ++ itC1 x ++ (itC l).drop (k * 2)) → Keep (fun j => (Value.slice ad2 (k + 1) cap2).ownBlock = some j) w5 w6 → insI x l = l.take k ++ ([x] ++ l.drop k) → w6.ownsRow B 38 2 (.slice ad3 (l.length + 1) cap3) (insI x l).length (itC (insI x l)) ∧ Keep (fun _ => False) w w6) := fun ad2 cap2 w5 ad3 cap3 w6 h1 h2 h3 hk' he => by
        refine ⟨?_, (HKA.out.trans (HKq.out.trans h1.out)).then hk' (fun j hj e => by have := ownsRow_ge h2 e; have := (HKA.out.trans HKq.out).size; omega)⟩
        rw [he]
        have e1 : (l.take k ++ ([x] ++ l.drop k)).length = l.length + 1 := by simp; omega
        have e2 : itC (l.take k ++ ([x] ++ l.drop k)) = (itC l).take (k * 2) ++ itC1 x ++ (itC l).drop (k * 2) := by
          rw [← HT1.out, ← HT3.out]
          simp [itC]
        rw [e1, e2]
        exact ownsRow_base h3 (Nat.le_trans hB (HKA.out.trans HKq.out).size)
      have hr1 := HR1.out
      have hr3 := HR3.out
      clear HV HV4 HX HKA HKq HT1 HT3 HR1 HR3 HG3 HX4
      go_wp2_with (first | (at_builtin; refine wpl_gapp rfl _ _ elR rfl w4.heap.size (.slice ad2 (k + 1) cap2) x3 ((itC l).take (k * 2) ++ itC1 x) ((itC l).drop (k * 2)) (k + 1) (l.length - k) (l.length + 1) N7.out rfl rfl HRw5.out HSw5.out HGw5.out HL3.out HO3.out N5.out N6.out ?_; intro ad3 cap3 w6 hr6 hk6; have HFIN := hid (F3.out ad2 cap2 w5 ad3 cap3 w6 HKw5 HRw5.out hr6 hk6); clear hr6 hk6) | (at_builtin; refine wpl_gapp rfl _ _ elR rfl w4.heap.size (.slice ad1 k cap1) _ ((itC l).take (k * 2)) (itC1 x) k 1 (k + 1) rfl rfl rfl HRw3.out HSw3.out HGw3.out rfl HO2.out N3.out N4.out ?_; intro ad2 cap2 w5 hr5 hk5; obtain ⟨HKw5, HGw5, HSw5⟩ := F2.out ad1 cap1 w3 w5 HKw3 HRw3 hk5; have HRw5 := hid hr5; clear hr5 hk5) | (at_builtin; refine wpl_gapp rfl _ _ elR rfl w4.heap.size (.slice none 0 0) x1 [] ((itC l).take (k * 2)) 0 k k N0.out rfl rfl nil_row (Nat.le_refl _) HG1.out HL1.out HO1.out N1.out N2.out ?_; intro ad1 cap1 w3 hr3 hk3; obtain ⟨⟨d0, d1⟩, HKw3, HRw3, HGw3, HSw3⟩ := F1.out ad1 cap1 w3 hr3 hk3; clear hr3 hk3))
      have HF := hid (HFIN.out HIN.out)
      clear HFIN
      go_wp2
      go_ret
      exact ⟨_, rfl, HF.out⟩
end Go.Proofs.Ytimdnddplhkdlaa
