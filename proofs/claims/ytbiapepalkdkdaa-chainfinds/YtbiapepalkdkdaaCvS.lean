/- All pieces' ids of a chain: both sides. -/
import Derived.Test.YtbiapepalkdkdaaCvR
namespace Go.Proofs.Ytbiapepalkdkdaa
open Go.RowKit Go.Maps
set_option linter.unusedVariables false
set_option linter.unusedSimpArgs false

theorem idsV_len (q : List (Value × Vn)) (k : Nat) (h : ∀ y ∈ q, y.2.ps.length ≤ 512) : (idsV (vqL (q.take k))).length ≤ 512 * k := by
  induction k with
  | zero => simp [vqL, idsV]
  | succ k ih =>
    by_cases hk : k < q.length
    · rw [idsV_take q k hk, List.length_append]
      have := h _ (List.getElem_mem hk)
      simp only [pcI, List.length_map]
      omega
    · rw [List.take_of_length_le (by omega)]
      rw [List.take_of_length_le (by omega)] at ih
      omega
theorem app_strs {w W w' : World} {B : Nat} {v : Value} {xs : List Value} {n : Nat} (h : W.ownsRow B 9 1 v n xs) (hw : Below w.heap.size w W) (hB : B = w.heap.size) (hk : Keep (fun j => v.ownBlock = some j) W w') : Below w.heap.size w w' :=
  hw.trans (keep_below hk (fun j hj e => by have := ownsRow_ge h e; omega) hw.size)
set_option maxRecDepth 100000 in
set_option maxHeartbeats 2000000 in
theorem ids_any (v : Value) (q : List (Value × Vn)) (w : World) (hv : VnI w v q) : Calls Try.prog 28 #[v] w fun e w' => ∃ u, e = .returned u ∧ Strs w' u (chI (vqL q)) ∧ Below w.heap.size w w' := by
  obtain ⟨ad, cap, rfl, hc⟩ := hv.form
  have IC := hid (isChain_any (.slice ad q.length cap) q w hv)
  have HC := hid hc
  have HLN : Hid (isCh (vqL q) = true → q.length ≤ 32) := fun h => by have := isCh_len h; rw [vqL_len] at this; exact this
  have HPS : Hid (isCh (vqL q) = true → ∀ y ∈ q, y.2.ps.length ≤ 512 ∧ ∀ p ∈ y.2.ps, p.id.size ≤ 1048576) := fun h y hy => by
    have h1 := vnOk_ps (isCh_all h _ (vq_mem hy))
    exact ⟨h1.1, fun p hp => by have := (pcOk_id (h1.2.1 p hp)).1; omega⟩
  have HI : Hid (chI (vqL q) = if isCh (vqL q) = true then idsV (vqL q) else []) := rfl
  have HT : Hid (∀ (k : Nat) (hk : k < q.length), idsV (vqL (q.take (k + 1))) = idsV (vqL (q.take k)) ++ pcI q[k].2.ps) := idsV_take q
  generalize chI (vqL q) = CI at *
  generalize isCh (vqL q) = IS at *
  clear hc hv
  go_enter Try.func28, Try.ntmps28
  go_wp2_with fail
  refine IC.out.mono ?_
  rintro e w1 ⟨rfl, b1⟩
  have B1 := hid b1
  clear IC b1
  cases IS
  · have hi : CI = [] := HI.out
    subst hi
    clear HC HLN HPS HI HT
    go_wp2
    go_ret
    exact ⟨_, rfl, .inl ⟨rfl, none, 0, rfl⟩, B1.out⟩
  · have hi : CI = idsV (vqL q) := HI.out
    have HPS2 := hid (HPS.out rfl)
    have HL := hid (HLN.out rfl)
    have HLE : Hid (∀ k, (idsV (vqL (q.take k))).length ≤ 512 * k) := fun k => idsV_len q k (fun y hy => (HPS2.out y hy).1)
    subst hi
    clear HPS HLN HI
    go_wp2
    go_loopw [3, 11] (fun o i wr => ∃ (k m : Nat) (ad0 : Option Addr) (cp0 : Nat), k ≤ q.length ∧ i = .int .i64 k ∧ o = .slice ad0 m cp0 ∧ Hid (m = (idsV (vqL (q.take k))).length ∧ wr.ownsRow w.heap.size 9 1 (.slice ad0 m cp0) m (ss (idsV (vqL (q.take k))))) ∧ Hid (Below w.heap.size w wr)) (fun _ i _ => q.length - (intOf i).toNat)
    case atStart => exact ⟨0, 0, none, 0, by omega, rfl, rfl, ⟨rfl, rfl, .inl ⟨rfl, rfl⟩⟩, B1⟩
    case round =>
      clear B1
      obtain ⟨k, m, ad0, cp0, hk, rfl, rfl, HR, HB⟩ := hrel
      by_cases hlt : k < q.length
      · have hk0 : (0 : Int) ≤ (k : Int) := by omega
        have hk1 : (k : Int) < (q.length : Int) := by omega
        have hwk : wrap64 ((k : Int) + 1) = ((k + 1 : Nat) : Int) := by have := HL.out; rw [IntWalk.wrap64_in _ (by omega)]; omega
        obtain ⟨b, off, rfl, hb, c0, c1, c2, c3, c4, hp⟩ := HC.out k hlt
        have d0 := (HB.out.cell (p := ⟨b, off + k * 5, none⟩) hb).trans c0
        have d1 := (HB.out.cell (p := ⟨b, off + k * 5 + 1, none⟩) hb).trans c1
        have d2 := (HB.out.cell (p := ⟨b, off + k * 5 + 2, none⟩) hb).trans c2
        have d3 := (HB.out.cell (p := ⟨b, off + k * 5 + 3, none⟩) hb).trans c3
        have d4 := (HB.out.cell (p := ⟨b, off + k * 5 + 4, none⟩) hb).trans c4
        have hps := HPS2.out _ (List.getElem_mem hlt)
        have PI : Hid (∀ W, Below w.heap.size w W → Calls Try.prog 44 #[q[k].1] W fun e w' => ∃ ad cap, e = .returned (.slice ad q[k].2.ps.length cap) ∧ w'.ownsRow W.heap.size 9 1 (.slice ad q[k].2.ps.length cap) q[k].2.ps.length (ss (pcI q[k].2.ps)) ∧ Below W.heap.size W w') := fun W hW => pids_any q[k].1 q[k].2.ps W (hp.next hW) (by omega) hps.2
        have hmb : m + q[k].2.ps.length ≤ 100000 := by have h1 := HLE.out k; have h2 := HL.out; have h3 := HR.out.1; omega
        have HTK := hid (HT.out k hlt)
        have HSL : Hid ((ss (pcI q[k].2.ps)).length = q[k].2.ps.length * 1) := by show _ = _; rw [ss_len]; simp [pcI]
        have HSO := hid (ss_one (pcI q[k].2.ps))
        have HPL : Hid ((pcI q[k].2.ps).length = q[k].2.ps.length) := by show _ = _; simp [pcI]
        have hpf := hp.sl
        have HLT := hid hlt
        have hk33 : (k : Int) < 33 := by have := HL.out; omega
        clear HC HT HPS2 HLE hps hp c0 c1 c2 c3 c4 hb HL
        generalize q[k] = y at *
        obtain ⟨pv, id, ma, sz, sum, ps⟩ := y
        simp only at *
        obtain ⟨ad2, cap2, rfl⟩ := hpf
        generalize pcI ps = PS at *
        generalize ps.length = pn at *
        have BX := hid (Bx.made HB.out [.int .i64 id, .bool ma, .int .i64 sz, .string sum, .slice ad2 pn cap2] 24)
        have y4 := BX.out.row.cellAt (o := 4) rfl
        have RX := hid (((keep_alloc (fun _ => False) wr (.cells #[.int .i64 id, .bool ma, .int .i64 sz, .string sum, .slice ad2 pn cap2] 24)).ownsRow HR.out.2 (fun _ _ h => h)))
        clear hlt hk
        go_wp2_with fail
        refine (PI.out _ BX.out.b).mono ?_
        rintro e w2 ⟨ad3, cap3, rfl, o2, b2⟩
        have B2 := hid (BX.out.next b2)
        have R2 := hid ((b2.keep (fun _ => False)).ownsRow RX.out (fun _ _ h => h))
        have S2 := hid (RowC.own o2)
        clear b2 PI BX RX y4 HB d0 d1 d2 d3 d4 o2
        have HSZ := hid B2.out.b.size
        have HB1 : Hid (m + pn ≤ 4611686018427387904) := by show _ ≤ _; omega
        have HB2 : Hid ((m + pn) * 16 ≤ 140737488355328) := by show _ ≤ _; omega
        have FIN : Hid (∀ ad' cap' w', w'.ownsRow w.heap.size 9 1 (.slice ad' (m + pn) cap') (m + pn) (ss (idsV (vqL (q.take k))) ++ ss PS) → Keep (fun j => (Value.slice ad0 m cp0).ownBlock = some j) w2 w' → Hid (m + pn = (idsV (vqL (q.take (k + 1)))).length ∧ w'.ownsRow w.heap.size 9 1 (.slice ad' (m + pn) cap') (m + pn) (ss (idsV (vqL (q.take (k + 1)))))) ∧ Hid (Below w.heap.size w w')) := fun ad' cap' w' hr hk' => by
          refine ⟨?_, app_strs R2.out B2.out.b rfl hk'⟩
          show _ ∧ _
          rw [HTK.out, ss_app, List.length_append, ← HR.out.1, HPL.out]
          exact ⟨rfl, hr⟩
        generalize ss (idsV (vqL (q.take k))) = YS at *
        generalize ss PS = XS at *
        clear HTK HR B2 HPL hmb
        go_wp2_with (at_builtin; refine wpl_gappR rfl _ _ elSt rfl w.heap.size (.slice ad0 m cp0) (.slice ad3 pn cap3) YS XS m pn (m + pn) rfl rfl rfl R2.out HSZ.out S2.out HSL.out HSO.out HB1.out HB2.out ?_; intro ad' cap' w' hr' hk')
        obtain ⟨F1, F2⟩ := FIN.out _ _ _ hr' hk'
        clear hr' hk' FIN R2 S2 HSZ
        go_wp2
        exact ⟨⟨k + 1, _, _, _, HLT.out, by first | rw [hwk] | rfl | simp, rfl, F1, F2⟩, by (try rw [hwk]); have := HLT.out; simp [intOf]; omega⟩
      · have hd : decide ((k : Int) < (q.length : Int)) = false := decide_eq_false (by omega)
        have hd2 : decide (k < q.length) = false := decide_eq_false hlt
        have hke : k = q.length := by omega
        have HF : Hid (Strs wr (.slice ad0 m cp0) (idsV (vqL q))) := by
          obtain ⟨hm, hr⟩ := HR.out
          rw [hke, List.take_length] at hm hr
          have := hr
          rw [hm] at this ⊢
          exact own_strs this
        clear HC HT HPS2 HLE HR hke HL hlt hk
        go_wp2
        go_ret
        exact ⟨_, rfl, HF.out, HB.out⟩
set_option maxRecDepth 100000 in
set_option maxHeartbeats 2000000 in
theorem rids_any (v : Value) (q : List (Value × Vn)) (w : World) (hv : VnI w v q) (hq : SzQ q) : Calls Try.prog 29 #[v] w fun e w' => ∃ u, e = .returned u ∧ Strs w' u (chI (vqL q)) ∧ Below w.heap.size w w' := by
  obtain ⟨ad, cap, rfl, hc⟩ := hv.form
  have IC : Hid (∀ W, Below w.heap.size w W → Calls Try.prog 41 #[.slice ad q.length cap] W fun e w' => e = .returned (.bool (isCh (vqL q))) ∧ Below W.heap.size W w') := fun W hW => rmay_any _ q W (hv.next hW) hq.1 hq.2
  have HC := hid hc
  have HLQ := hid hq.1
  have HLN : Hid (isCh (vqL q) = true → q.length ≤ 32) := fun h => by have := isCh_len h; rw [vqL_len] at this; exact this
  have HPS : Hid (isCh (vqL q) = true → ∀ y ∈ q, y.2.ps.length ≤ 512) := fun h y hy => (vnOk_ps (isCh_all h _ (vq_mem hy))).1
  have HI : Hid (chI (vqL q) = if isCh (vqL q) = true then idsV (vqL q) else []) := rfl
  have HT : Hid (∀ (k : Nat) (hk : k < q.length), idsV (vqL (q.take (k + 1))) = idsV (vqL (q.take k)) ++ pcI q[k].2.ps) := idsV_take q
  have HNE : Hid (q.length = 0 → chI (vqL q) = []) := fun h => by rw [List.length_eq_zero_iff.1 h]; unfold chI; split <;> rfl
  generalize chI (vqL q) = CI at *
  generalize isCh (vqL q) = IS at *
  clear hc hv hq
  go_enter Try.func29, Try.ntmps29
  go_wp2
  go_loopw [3, 4] (fun o i wr => ∃ (k m : Nat) (ad0 : Option Addr) (cp0 : Nat), k ≤ q.length ∧ i = .int .i64 k ∧ o = .slice ad0 m cp0 ∧ Hid (k = 0 ∨ IS = true) ∧ Hid (m = (idsV (vqL (q.take k))).length ∧ wr.ownsRow w.heap.size 9 1 (.slice ad0 m cp0) m (ss (idsV (vqL (q.take k))))) ∧ Hid (Below w.heap.size w wr)) (fun _ i _ => q.length - (intOf i).toNat)
  case atStart => exact ⟨0, 0, none, 0, by omega, rfl, rfl, .inl rfl, ⟨rfl, rfl, .inl ⟨rfl, rfl⟩⟩, Below.refl _ _⟩
  case round =>
    obtain ⟨k, m, ad0, cp0, hk, rfl, rfl, HZ, HR, HB⟩ := hrel
    by_cases hlt : k < q.length
    · have hk0 : (0 : Int) ≤ (k : Int) := by omega
      have hk1 : (k : Int) < (q.length : Int) := by omega
      have hkd : decide ((k : Int) < (q.length : Int)) = true := decide_eq_true hk1
      have hkd2 : decide (k < q.length) = true := decide_eq_true hlt
      go_wp2_with fail
      refine (IC.out _ HB.out).mono ?_
      rintro e w2 ⟨rfl, b2⟩
      have B2 := hid (below_on HB.out b2)
      have R2 := hid ((b2.keep (fun _ => False)).ownsRow HR.out.2 (fun _ _ h => h))
      have HM := hid HR.out.1
      clear b2 HB HR
      cases IS
      · have hi : CI = [] := HI.out
        have hz : k = 0 := by rcases HZ.out with h | h; exact h; cases h
        subst hi
        have HF : Hid (Strs w2 (.slice ad0 m cp0) []) := by
          have hm := HM.out
          rw [hz] at hm
          have : m = 0 := hm
          subst this
          exact .inl ⟨rfl, _, _, rfl⟩
        clear HC HLN HPS HI HT HNE IC HZ hz R2 HM HLQ hlt hk
        go_wp2
        go_ret
        exact ⟨_, rfl, HF.out, B2.out⟩
      · have hi : CI = idsV (vqL q) := HI.out
        have HL := hid (HLN.out rfl)
        have HLE : Hid (∀ k, (idsV (vqL (q.take k))).length ≤ 512 * k) := fun k => idsV_len q k (HPS.out rfl)
        have hwk : wrap64 ((k : Int) + 1) = ((k + 1 : Nat) : Int) := by have := HL.out; rw [IntWalk.wrap64_in _ (by omega)]; omega
        obtain ⟨b, off, rfl, hb, c0, c1, c2, c3, c4, hp⟩ := HC.out k hlt
        have hps := HPS.out rfl _ (List.getElem_mem hlt)
        have HCE : Hid (∀ W, Below w.heap.size w W → W.cell? ⟨b, off + k * 5 + 4, none⟩ = some q[k].1) := fun W hW => (hW.cell (p := ⟨b, off + k * 5 + 4, none⟩) hb).trans c4
        obtain ⟨ad2, cap2, hpv, hpc⟩ := hp.form
        rw [hpv] at HCE
        have HPC : Hid (∀ (i : Nat) (hi : i < q[k].2.ps.length) (W : World), Below w.heap.size w W → ∃ b2 o2, ad2 = some ⟨b2, o2, none⟩ ∧ W.cell? ⟨b2, o2 + i * 2, none⟩ = some (.string q[k].2.ps[i].id)) := fun i hi W hW => by
          obtain ⟨b2, o2, e2, hb2, e3, _⟩ := hpc i hi
          exact ⟨b2, o2, e2, (hW.cell (p := ⟨b2, o2 + i * 2, none⟩) hb2).trans e3⟩
        have hmb : m ≤ 16384 := by have h1 := HLE.out k; have h2 := HL.out; have h3 := HM.out; omega
        have HTK := hid (HT.out k hlt)
        have HLT := hid hlt
        have hk33 : (k : Int) < 33 := by have := HL.out; omega
        clear HC HLN HPS HI HNE HZ HLQ c0 c1 c2 c3 c4 hp hb hpc hpv HLE HL
        generalize q[k].2.ps = ps at *
        clear hlt hk
        go_wp2
        go_loopw [3, 5] (fun o i wr => ∃ (j : Nat) (ad1 : Option Addr) (cp1 : Nat), j ≤ ps.length ∧ i = .int .i64 j ∧ o = .slice ad1 (m + j) cp1 ∧ Hid (wr.ownsRow w.heap.size 9 1 (.slice ad1 (m + j) cp1) (m + j) (ss (idsV (vqL (q.take k)) ++ pcI (ps.take j)))) ∧ Hid (Below w.heap.size w wr)) (fun _ i _ => ps.length - (intOf i).toNat)
        case atStart => exact ⟨0, ad0, cp0, Nat.zero_le _, rfl, rfl, hid (by simpa [pcI] using R2.out), B2⟩
        case round =>
          clear R2 B2
          obtain ⟨j, ad1, cp1, hj, rfl, rfl, HR, HB⟩ := hrel
          have yc := HCE.out _ HB.out
          by_cases hjl : j < ps.length
          · have hj0 : (0 : Int) ≤ (j : Int) := by omega
            have hj1 : (j : Int) < (ps.length : Int) := by omega
            obtain ⟨b2, o2, rfl, e3⟩ := HPC.out j hjl _ HB.out
            have HPT : Hid (ss (idsV (vqL (q.take k)) ++ pcI (ps.take (j + 1))) = ss (idsV (vqL (q.take k)) ++ pcI (ps.take j)) ++ [.string ps[j].id]) := by show _ = _; rw [pcI_take ps j hjl, ← List.append_assoc, ss_app]; rfl
            generalize ps[j].id = NN at *
            have HGA := hid ((keep_alloc (fun _ => False) wr (.cells #[.string NN] 9)).ownsRow HR.out (fun _ _ h => h))
            have HGX : Hid (GSrc (wr.alloc (.cells #[.string NN] 9)) (.slice (some ⟨wr.heap.size, 0, none⟩) 1 1) 1 [.string NN]) := gsrc_block (heap_alloc_new _ _)
            have HSZ : Hid (w.heap.size ≤ (wr.alloc (.cells #[.string NN] 9)).heap.size) := Nat.le_trans HB.out.size (keep_alloc (fun _ => False) _ _).size
            have HO1 : Hid (∀ u ∈ [Value.string NN], u.oneCell' = true) := fun u hu => by simp at hu; subst hu; rfl
            have HB1 : Hid (m + j + 1 ≤ 4611686018427387904) := by show _ ≤ _; omega
            have HB2 : Hid ((m + j + 1) * 16 ≤ 140737488355328) := by show _ ≤ _; omega
            have FIN : Hid (∀ ad' cap' w', w'.ownsRow w.heap.size 9 1 (.slice ad' (m + j + 1) cap') (m + j + 1) (ss (idsV (vqL (q.take k)) ++ pcI (ps.take j)) ++ [.string NN]) → Keep (fun i => (Value.slice ad1 (m + j) cp1).ownBlock = some i) (wr.alloc (.cells #[.string NN] 9)) w' → Hid (w'.ownsRow w.heap.size 9 1 (.slice ad' (m + (j + 1)) cap') (m + (j + 1)) (ss (idsV (vqL (q.take k)) ++ pcI (ps.take (j + 1))))) ∧ Hid (Below w.heap.size w w')) := fun ad' cap' w' hr hk' => by
              refine ⟨?_, app_strs HGA.out (below_al HB.out _) rfl hk'⟩
              show World.ownsRow _ _ _ _ _ _ _
              rw [HPT.out]; exact hr
            have HX2 : Hid ([Value.string NN].length = 1 * 1) := rfl
            generalize ss (idsV (vqL (q.take k)) ++ pcI (ps.take j)) = YS at *
            clear HPT HR HPC HCE HTK HT HM IC
            go_wp2_with (at_builtin; refine wpl_gappL rfl _ _ elSt rfl w.heap.size (.slice ad1 (m + j) cp1) (.slice (some ⟨wr.heap.size, 0, none⟩) 1 1) YS [.string NN] (m + j) 1 (m + j + 1) rfl rfl rfl HGA.out HSZ.out HGX.out HX2.out HO1.out HB1.out HB2.out ?_; intro ad' cap' w' hr' hk')
            obtain ⟨F1, F2⟩ := FIN.out _ _ _ hr' hk'
            clear hr' hk' FIN HGA HGX HSZ yc e3 HB
            go_wp2
            exact ⟨⟨j + 1, _, _, by omega, by go_num, by first | rfl | simp [Nat.add_assoc], F1, F2⟩, by simp [intOf]; omega⟩
          · have hd : decide ((j : Int) < (ps.length : Int)) = false := decide_eq_false (by omega)
            have hd2 : decide (j < ps.length) = false := decide_eq_false hjl
            have hje : j = ps.length := by omega
            have HF : Hid (m + j = (idsV (vqL (q.take (k + 1)))).length ∧ wr.ownsRow w.heap.size 9 1 (.slice ad1 (m + j) cp1) (m + j) (ss (idsV (vqL (q.take (k + 1)))))) := by
              have h1 := HR.out
              rw [hje, List.take_length] at h1
              show _ ∧ _
              rw [HTK.out, hje, List.length_append, ← HM.out]
              exact ⟨by simp [pcI], h1⟩
            clear HPC HCE HTK HT HM IC HR hje hjl hj
            go_wp2
            exact ⟨⟨k + 1, _, _, _, HLT.out, by first | rw [hwk] | rfl | simp, rfl, .inr (by first | rfl | trivial), HF, HB⟩, by (try rw [hwk]); have := HLT.out; simp [intOf]; omega⟩
    · have hd : decide ((k : Int) < (q.length : Int)) = false := decide_eq_false (by omega)
      have hd2 : decide (k < q.length) = false := decide_eq_false hlt
      have hke : k = q.length := by omega
      have HF : Hid (Strs wr (.slice ad0 m cp0) CI) := by
        obtain ⟨hm, hr⟩ := HR.out
        rcases HZ.out with h | h
        · have e := HNE.out (by omega)
          subst e
          rw [h] at hm
          have : m = 0 := hm
          subst this
          exact .inl ⟨rfl, _, _, rfl⟩
        · have e := HI.out
          rw [if_pos h] at e
          rw [hke, List.take_length] at hm hr
          rw [e]
          rw [hm] at hr ⊢
          exact own_strs hr
      clear HC HLN HPS HI HT HNE HZ HR hke hlt hk IC HLQ
      go_wp2
      go_ret
      exact ⟨_, rfl, HF.out, HB.out⟩
end Go.Proofs.Ytbiapepalkdkdaa
