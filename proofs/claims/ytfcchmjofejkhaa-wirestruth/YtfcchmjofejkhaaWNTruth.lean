/- The walk of the law WiresTruth. -/
import Derived.Test.YtfcchmjofejkhaaWNTrM
namespace Go.Proofs.Ytfcchmjofejkhaa
open Go.RowKit Go.Maps
set_option linter.unusedVariables false
set_option linter.unusedSimpArgs false

theorem bytes_inj {a b : ByteArray} (h : a.toList = b.toList) : a = b := by
  rw [Lib.toList_data, Lib.toList_data] at h
  cases a; cases b
  simp only [ByteArray.mk.injEq]
  exact Array.toList_inj.1 h
theorem sum3 (a b c k : Nat) (h1 : a ≤ k) (h2 : b ≤ 5000 * k) (h3 : c ≤ 4096) (h4 : k ≤ 101) : wrap64 ((a : Int) + (b : Int)) = (a : Int) + (b : Int) ∧ wrap64 ((a : Int) + (b : Int) + (c : Int)) = (a : Int) + (b : Int) + (c : Int) := ⟨IntWalk.wrap64_in _ (by omega), IntWalk.wrap64_in _ (by omega)⟩
theorem sum3n {a b c d : Nat} (h : d = a + b + c) : ((d : Int) != (a : Int) + (b : Int) + (c : Int)) = false := by
  simp; omega
theorem krow_cells {w : World} {v : Value} {R : List Pk} {n : Nat} (h : w.ownsRow 0 33 3 v n (pks R)) (k : Nat) (hk : k < R.length) : ∃ g cap, v = .slice (some ⟨g, 0, none⟩) n cap ∧ g < w.heap.size ∧ w.cell? ⟨g, k * 3, none⟩ = some (.int .i64 R[k].fr) ∧ w.cell? ⟨g, k * 3 + 1, none⟩ = some (.int .i64 R[k].tt) ∧ w.cell? ⟨g, k * 3 + 2, none⟩ = some (.string R[k].s) := by
  have hl := h.1
  rw [pks_len] at hl
  rcases h.2 with ⟨e, h0⟩ | ⟨g, cap, cur, e, hg, hb, r⟩
  · omega
  · subst e
    exact ⟨g, cap, rfl, (Array.getElem?_eq_some_iff.1 hb).1, grow_at h (pks_get R k hk 0 (by omega)), grow_at h (pks_get R k hk 1 (by omega)), grow_at h (pks_get R k hk 2 (by omega))⟩
set_option maxRecDepth 100000 in
set_option maxHeartbeats 4000000 in
theorem wiresTruth_core (v : Value) (l : List A8) (w : World) (hv : ActsI w v l) (hxl : l.length ≤ 9223372036854775807) (hxs : ∀ x ∈ l, x.p.s.size ≤ 140737488355328) : Calls Try.prog 5 #[v] w fun e w' => e = .returned (.bool true) ∧ Below w.heap.size w w' := by
  have NW := hid (newA w)
  have AW := hid (fun W => awake8 W)
  obtain ⟨ad, cap, rfl, hcl⟩ := hv.form
  have HCL := hid hcl
  have HXS := hid hxs
  clear hcl hv hxs
  go_enter Try.func5, Try.ntmps5
  go_wp2_with fail
  refine NW.out.mono ?_
  rintro e w1 ⟨rfl, h1⟩
  have hsz : w.heap.size < w1.heap.size := by obtain ⟨P, hn, _⟩ := h1; exact hn.lt
  have HSZ := hid hsz
  have H1 := hid h1
  clear h1 NW hsz
  go_wp2_with fail
  refine (AW.out _).mono ?_
  rintro e w2 ⟨rfl, k2⟩
  have H2 : Hid (Tr w w2.heap.size 0 0 net0 (.slice none 0 0) [] (w2.alloc (.cells #[.slice none 0 0, .slice none 0 0, .int .i64 0, .int .i64 0, .int .i64 0] 28))) := ⟨((H1.out.keep k2).keep (keep_alloc (fun _ => False) w2 (.cells #[.slice none 0 0, .slice none 0 0, .int .i64 0, .int .i64 0, .int .i64 0] 28))).less (fun j hj => by simp [Value.ownBlock] at hj), ⟨rfl, .inl ⟨rfl, rfl⟩⟩, row1 w2 _ _, rfl, by intro x hx; simp [net0] at hx, ⟨Nat.le_refl _, Nat.le_refl _, Nat.le_refl _, Nat.le_refl _⟩⟩
  have HSZ2 : Hid (w.heap.size < w2.heap.size) := Nat.lt_of_lt_of_le HSZ.out k2.size
  clear k2 H1 AW HSZ
  go_wp2
  generalize w2.alloc (.cells #[.slice none 0 0, .slice none 0 0, .int .i64 0, .int .i64 0, .int .i64 0] 28) = w3 at *
  go_loopw [5, 6] (fun sv i wr => ∃ (k : Nat) (ads : Option Addr) (caps : Nat) (n : Net) (SL : List Pk), k ≤ l.length ∧ k ≤ 100 ∧ sv = .slice ads SL.length caps ∧ i = .int .i64 (k : Int) ∧ Hid (Tr w w2.heap.size k k n (.slice ads SL.length caps) SL wr)) (fun _ i _ => l.length - (intOf i).toNat)
  case atStart => exact ⟨0, none, 0, net0, [], Nat.zero_le _, Nat.zero_le _, rfl, rfl, H2⟩
  case round =>
    clear H2
    obtain ⟨k, ads, caps, n, SL, hk, hk8, rfl, rfl, HT⟩ := hrel
    by_cases hlt : k < l.length ∧ k < 100
    · obtain ⟨hlt, hl8⟩ := hlt
      have hk0 : (0 : Int) ≤ (k : Int) := by omega
      have hk1 : (k : Int) < (l.length : Int) := by omega
      have hk9 : (k : Int) < 100 := by omega
      have hss := HXS.out _ (List.getElem_mem hlt)
      have HCK := hid (HCL.out k hlt)
      clear HCL HXS
      generalize l[k] = a at *
      obtain ⟨kd, ⟨fr, tt, s⟩, an, am⟩ := a
      simp only at HCK hss
      obtain ⟨bb, off, rfl, hbw, q0, q1, q2, q3, q4, q5⟩ := HCK.out
      have hkp := HT.out.net.kp
      have c0 := (hkp.cell hbw (fun h => h)).trans q0
      have c1 := (hkp.cell hbw (fun h => h)).trans q1
      have c2 := (hkp.cell hbw (fun h => h)).trans q2
      have c3 := (hkp.cell hbw (fun h => h)).trans q3
      have c4 := (hkp.cell hbw (fun h => h)).trans q4
      have c5 := (hkp.cell hbw (fun h => h)).trans q5
      clear q0 q1 q2 q3 q4 q5 hkp HCK hbw
      by_cases hk1' : kd = 1
      · subst hk1'
        have HT2 := hid (HT.out.keep (keep_alloc (fun _ => False) wr (.cells #[.int .i64 1, .int .i64 fr, .int .i64 tt, .string s, .int .i64 an, .int .i64 am] 35)))
        have HTK := hid (HT2.out.take an (by omega))
        clear HT
        have y0 := (row1 wr [.int .i64 1, .int .i64 fr, .int .i64 tt, .string s, .int .i64 an, .int .i64 am] 35).cellAt (o := 4) rfl
        go_wp2_with fail
        refine HTK.out.mono ?_
        rintro e w4 ⟨fr', tt', s', b, rfl, h4, hb4⟩
        have H5 := hid (h4.keep (keep_alloc (fun _ => False) w4 (.cells #[.int .i64 fr', .int .i64 tt', .string s'] 33)))
        have HR5 := hid (row1 w4 [.int .i64 fr', .int .i64 tt', .string s'] 33)
        have HB4 := hid hb4
        clear h4 hb4 HTK HT2 c0 c1 c2 c3 c4 c5
        generalize hn' : takeN n an = n' at *
        clear hn' y0
        go_wp2
        generalize w4.alloc (.cells #[.int .i64 fr', .int .i64 tt', .string s'] 33) = w5 at *
        go_loopw [10, 11] (fun kn i wq => ∃ (q : Nat) (c : Bool), q ≤ SL.length ∧ kn = .bool c ∧ i = .int .i64 (q : Int) ∧ Hid (Keep (fun _ => False) w5 wq) ∧ Hid (c = true ∨ (b = true ∧ ∀ r (hr : r < SL.length), r < q → SL[r] ≠ ⟨fr', tt', s'⟩))) (fun _ i _ => SL.length - (intOf i).toNat)
        case atStart => exact ⟨0, !b, Nat.zero_le _, rfl, rfl, Keep.refl _ _, by cases b; exact .inl rfl; exact .inr ⟨rfl, fun r hr h => absurd h (Nat.not_lt_zero _)⟩⟩
        case round =>
          obtain ⟨q, c, hq, rfl, rfl, HQ, HC⟩ := hrel
          by_cases hlq : q < SL.length
          · have hq0 : (0 : Int) ≤ (q : Int) := by omega
            have hq1 : (q : Int) < (SL.length : Int) := by omega
            have H6 := hid (H5.out.keep HQ.out)
            have hq9 : q < 1000 := by have := H6.out.bd.2.2.2; omega
            obtain ⟨g, cap', hv, hg, x0, x1, x2⟩ := krow_cells (ownsRow_base H6.out.own (Nat.zero_le _)) q hlq
            injection hv with hv1 hv2 hv3
            subst hv1 hv3
            have rP := HR5.out.keep HQ.out (fun h => h)
            have p0 := rP.cellAt (o := 0) rfl
            have p1 := rP.cellAt (o := 1) rfl
            have p2 := rP.cellAt (o := 2) rfl
            have HG := hid (rfl : SL[q] = SL[q])
            generalize hxq : SL[q] = xq at *
            have HXQ := hid hxq
            obtain ⟨f2, t2, s2⟩ := xq
            simp only at x0 x1 x2
            clear hxq HG H5 HR5 rP H6
            cases c
            · by_cases he : (f2 = fr' ∧ t2 = tt') ∧ s2 = s'
              · obtain ⟨⟨rfl, rfl⟩, rfl⟩ := he
                go_wp2
                go_quiet (fail)
                go_wp2
                exact ⟨⟨q + 1, true, by omega, rfl, by go_num, HQ.out.trans (nkeep_drewN _ _), .inl rfl⟩, by simp [intOf]; omega⟩
              · have HC2 : Hid (b = true ∧ ∀ r (hr : r < SL.length), r < q + 1 → SL[r] ≠ ⟨fr', tt', s'⟩) := by
                  rcases HC.out with h | ⟨h1, h2⟩
                  · cases h
                  · refine ⟨h1, fun r hr hr2 e => ?_⟩
                    by_cases hrq : r = q
                    · subst hrq
                      rw [HXQ.out] at e
                      injection e with e1 e2 e3
                      exact he ⟨⟨e1, e2⟩, e3⟩
                    · exact h2 r hr (by omega) e
                by_cases h1 : f2 = fr'
                · subst h1
                  by_cases h2 : t2 = tt'
                  · subst h2
                    have h3 : ¬ s2 = s' := fun h => he ⟨⟨rfl, rfl⟩, h⟩
                    have h4 : ¬ s2.toList = s'.toList := fun e => h3 (bytes_inj e)
                    have h5 : (s2.toList == s'.toList) = false := beq_eq_false_iff_ne.2 h4
                    clear he
                    go_wp2
                    go_quiet (fail)
                    go_wp2
                    exact ⟨⟨q + 1, false, by omega, rfl, by go_num, HQ.out.trans (nkeep_drewN _ _), .inr HC2.out⟩, by simp [intOf]; omega⟩
                  · have h2' : (t2 == tt') = false := by simpa using h2
                    have h2'' : decide (t2 = tt') = false := decide_eq_false h2
                    clear he
                    go_wp2
                    go_quiet (fail)
                    go_wp2
                    exact ⟨⟨q + 1, false, by omega, rfl, by go_num, HQ.out.trans (nkeep_drewN _ _), .inr HC2.out⟩, by simp [intOf]; omega⟩
                · have h1' : (f2 == fr') = false := by simpa using h1
                  have h1'' : decide (f2 = fr') = false := decide_eq_false h1
                  clear he
                  go_wp2
                  go_quiet (fail)
                  go_wp2
                  exact ⟨⟨q + 1, false, by omega, rfl, by go_num, HQ.out.trans (nkeep_drewN _ _), .inr HC2.out⟩, by simp [intOf]; omega⟩
            · go_wp2
              go_quiet (fail)
              go_wp2
              exact ⟨⟨q + 1, true, by omega, rfl, by go_num, HQ.out.trans (nkeep_drewN _ _), .inl rfl⟩, by simp [intOf]; omega⟩
          · have hq9 : q = SL.length := by omega
            subst hq9
            have hdl : decide ((SL.length : Int) < (SL.length : Int)) = false := decide_eq_false (by omega)
            have hc : c = true := by
              rcases HC.out with h | ⟨h1, h2⟩
              · exact h
              · obtain ⟨r, hr, e⟩ := List.getElem_of_mem (HB4.out h1)
                exact absurd e (h2 r hr hr)
            subst hc
            have H7 := hid (H5.out.keep HQ.out).wk
            clear H5 HR5 HQ HC HB4
            go_wp2
            exact ⟨⟨k + 1, ads, caps, n', SL, by omega, by omega, rfl, by go_num, H7⟩, by simp [intOf]; omega⟩
      · have hke : (kd == 1) = false := by simpa using hk1'
        have HT2 := hid (HT.out.keep (keep_alloc (fun _ => False) wr (.cells #[.int .i64 kd, .int .i64 fr, .int .i64 tt, .string s, .int .i64 an, .int .i64 am] 35)))
        have HA2 := hid (row1 wr [.int .i64 kd, .int .i64 fr, .int .i64 tt, .string s, .int .i64 an, .int .i64 am] 35)
        have hss2 := hid hss
        have hkk := hid hk8
        clear HT hss
        by_cases hk0' : kd = 0
        · subst hk0'
          have HK1 := hid hk1'
          have HF : Hid (∀ ad' cap' w', w'.ownsRow w.heap.size 33 3 (.slice ad' (SL.length + 1) cap') (SL.length + 1) (pks SL ++ pks [⟨fr, tt, s⟩]) → Keep (fun k => (Value.slice ads SL.length caps).ownBlock = some k) ((wr.alloc (.cells #[.int .i64 0, .int .i64 fr, .int .i64 tt, .string s, .int .i64 an, .int .i64 am] 35)).alloc (.cells #[.int .i64 fr, .int .i64 tt, .string s] 33)) w' → LocG ((wr.alloc (.cells #[.int .i64 0, .int .i64 fr, .int .i64 tt, .string s, .int .i64 an, .int .i64 am] 35)).alloc (.cells #[.int .i64 fr, .int .i64 tt, .string s] 33)) (.slice ads SL.length caps) (.slice ad' (SL.length + 1) cap') → Hid (Tr w w2.heap.size k (k + 1) n (.slice ad' (SL.length + 1) cap') (SL ++ [⟨fr, tt, s⟩]) w') ∧ w'.cell? ⟨wr.heap.size, 0, none⟩ = some (.int .i64 0) ∧ w'.cell? ⟨wr.heap.size, 1, none⟩ = some (.int .i64 fr) ∧ w'.cell? ⟨wr.heap.size, 2, none⟩ = some (.int .i64 tt) ∧ w'.cell? ⟨wr.heap.size, 3, none⟩ = some (.string s) ∧ w'.cell? ⟨wr.heap.size, 4, none⟩ = some (.int .i64 an) ∧ w'.cell? ⟨wr.heap.size, 5, none⟩ = some (.int .i64 am) ∧ w'.cell? ⟨w2.heap.size, 0, none⟩ = some (.slice none 0 0) ∧ w'.cell? ⟨w2.heap.size, 1, none⟩ = some (.slice none 0 0) ∧ w'.cell? ⟨w2.heap.size, 2, none⟩ = some (.int .i64 0) ∧ w'.cell? ⟨w2.heap.size, 3, none⟩ = some (.int .i64 0) ∧ w'.cell? ⟨w2.heap.size, 4, none⟩ = some (.int .i64 0)) := fun ad' cap' w' ho hk hl => by
            have k3 := keep_alloc (fun _ => False) (wr.alloc (.cells #[.int .i64 0, .int .i64 fr, .int .i64 tt, .string s, .int .i64 an, .int .i64 am] 35)) (.cells #[.int .i64 fr, .int .i64 tt, .string s] 33)
            have t3 := HT2.out.keep k3
            have r3 := (HA2.out.keep k3 (fun h => h))
            have t4 := t3.app ho hk hl
            have r4 := r3.keep hk (fun e => own_noth t3.own e (Oth.row r3 (by decide) (by decide)))
            exact ⟨t4, r4.cellAt rfl, r4.cellAt rfl, r4.cellAt rfl, r4.cellAt rfl, r4.cellAt rfl, r4.cellAt rfl, t4.box.cellAt rfl, t4.box.cellAt rfl, t4.box.cellAt rfl, t4.box.cellAt rfl, t4.box.cellAt rfl⟩
          have HO3 := hid ((HT2.out.keep (keep_alloc (fun _ => False) _ (.cells #[.int .i64 fr, .int .i64 tt, .string s] 33))).own)
          have HS3 : Hid (w.heap.size ≤ ((wr.alloc (.cells #[.int .i64 0, .int .i64 fr, .int .i64 tt, .string s, .int .i64 an, .int .i64 am] 35)).alloc (.cells #[.int .i64 fr, .int .i64 tt, .string s] 33)).heap.size) := (HT2.out.keep (keep_alloc (fun _ => False) _ (.cells #[.int .i64 fr, .int .i64 tt, .string s] 33))).net.size
          have HG3 : Hid (GSrc ((wr.alloc (.cells #[.int .i64 0, .int .i64 fr, .int .i64 tt, .string s, .int .i64 an, .int .i64 am] 35)).alloc (.cells #[.int .i64 fr, .int .i64 tt, .string s] 33)) (.slice (some ⟨wr.heap.size + 1, 0, none⟩) 1 1) 1 (pks [⟨fr, tt, s⟩])) := by
            have e : (wr.alloc (.cells #[.int .i64 0, .int .i64 fr, .int .i64 tt, .string s, .int .i64 an, .int .i64 am] 35)).heap.size = wr.heap.size + 1 := by simp
            rw [← e]
            exact gsrc_block (heap_alloc_new _ _)
          have OX := hid (pks_one [⟨fr, tt, s⟩])
          have hsl := HT2.out.bd.2.2.2
          have B3 : Hid (SL.length + 1 ≤ 70368744177) := by show _ ≤ _; omega
          have B4 : Hid ((SL.length + 1) * 32 ≤ 140737488355328) := by show _ ≤ _; omega
          have HLE : Hid ((SL ++ [(⟨fr, tt, s⟩ : Pk)]).length = SL.length + 1) := by show _ = _; simp
          have HMM : Hid ((⟨fr, tt, s⟩ : Pk) ∈ SL ++ [⟨fr, tt, s⟩]) := List.mem_append.2 (.inr (List.mem_singleton.2 rfl))
          generalize hSX : SL ++ [(⟨fr, tt, s⟩ : Pk)] = SX at *
          clear HT2 HA2 hk1' hSX
          go_wp2_with (at_builtin; refine wpl_gapp_at rfl _ _ ElPk rfl w.heap.size (.slice ads SL.length caps) (.slice (some ⟨wr.heap.size + 1, 0, none⟩) 1 1) (pks SL) (pks [⟨fr, tt, s⟩]) SL.length 1 (SL.length + 1) rfl rfl rfl HO3.out HS3.out HG3.out rfl OX.out B3.out B4.out ?_; intro ad' cap' w' ho' hk' hl'; obtain ⟨HX, y0, y1, y2, y3, y4, y5, z0, z1, z2, z3, z4⟩ := HF.out ad' cap' w' ho' hk' hl'; clear ho' hk' hl' HF HO3 HS3 HG3 OX B3 B4)
          refine (HX.out.step hkk.out hss2.out HK1.out (fun _ => HMM.out)).mono ?_
          rintro e w5 ⟨a1, e1, l1, a2, e2, l2, q1, q2, q3, b, n', rfl, h5⟩
          obtain ⟨bd1, bd2, bd3, bd4⟩ := h5.bd
          have hinv : n'.se = n'.ta + n'.lo + n'.L.length := h5.inv
          have hln := h5.net.net.1
          have CT := hid (stepKF h5.net (fun P1 h1 => counts_any w.heap.size P1 n' w5 h1))
          have H5 := hid h5
          have LN : Hid (∀ W, Keep (fun _ => False) w5 W → Calls Try.prog 15 #[.pointer (some ⟨w.heap.size, 0, none⟩)] W fun e w' => e = .returned (.int .i64 (n'.L.length : Nat)) ∧ w' = W) := fun W hW => by
            obtain ⟨P, h1, _⟩ := H5.out.net.keep hW
            exact nlen_any w.heap.size P n' W h1
          generalize hNL : n'.L.length = NL at *
          generalize hSE : n'.se = SE at *
          generalize hTA : n'.ta = TA' at *
          generalize hLO : n'.lo = LO at *
          have hw1 : wrap64 ((TA' : Int) + (LO : Int)) = (TA' : Int) + (LO : Int) := (sum3 TA' LO NL (k + 1) bd2 bd3 hln (by omega)).1
          have hw2 : wrap64 ((TA' : Int) + (LO : Int) + (NL : Int)) = (TA' : Int) + (LO : Int) + (NL : Int) := (sum3 TA' LO NL (k + 1) bd2 bd3 hln (by omega)).2
          have hbn : ((SE : Int) != (TA' : Int) + (LO : Int) + (NL : Int)) = false := sum3n hinv
          clear hNL hSE hTA hLO hinv hln bd1 bd2 bd3 bd4 h5
          go_wp2_with fail
          refine CT.out.mono ?_
          rintro e w6 ⟨rfl, h6, k6⟩
          have H6 := hid (H5.out.keep k6)
          have LN6 := hid (LN.out w6 k6)
          clear h6 k6 LN CT H5
          go_wp2_with fail
          refine LN6.out.mono ?_
          rintro e w7 ⟨rfl, rfl⟩
          go_wp2
          exact ⟨⟨k + 1, ad', cap', n', SX, by omega, by omega, by rw [HLE.out], by go_num, by rw [HLE.out]; exact H6⟩, by simp [intOf]; omega⟩
        · have hke0 : (kd == 0) = false := by simpa using hk0'
          have HK1 := hid hk1'
          have HK0 := hid hk0'
          clear hk1' hk0'
          have y0 := HA2.out.cellAt (o := 0) rfl
          have y1 := HA2.out.cellAt (o := 1) rfl
          have y2 := HA2.out.cellAt (o := 2) rfl
          have y3 := HA2.out.cellAt (o := 3) rfl
          have y4 := HA2.out.cellAt (o := 4) rfl
          have y5 := HA2.out.cellAt (o := 5) rfl
          have z0 := HT2.out.box.cellAt (o := 0) rfl
          have z1 := HT2.out.box.cellAt (o := 1) rfl
          have z2 := HT2.out.box.cellAt (o := 2) rfl
          have z3 := HT2.out.box.cellAt (o := 3) rfl
          have z4 := HT2.out.box.cellAt (o := 4) rfl
          go_wp2_with fail
          refine (HT2.out.wk.step hkk.out hss2.out HK1.out (fun e => absurd e HK0.out)).mono ?_
          rintro e w5 ⟨a1, e1, l1, a2, e2, l2, q1, q2, q3, b, n', rfl, h5⟩
          obtain ⟨bd1, bd2, bd3, bd4⟩ := h5.bd
          have hinv : n'.se = n'.ta + n'.lo + n'.L.length := h5.inv
          have hln := h5.net.net.1
          have CT := hid (stepKF h5.net (fun P1 h1 => counts_any w.heap.size P1 n' w5 h1))
          have H5 := hid h5
          have LN : Hid (∀ W, Keep (fun _ => False) w5 W → Calls Try.prog 15 #[.pointer (some ⟨w.heap.size, 0, none⟩)] W fun e w' => e = .returned (.int .i64 (n'.L.length : Nat)) ∧ w' = W) := fun W hW => by
            obtain ⟨P, h1, _⟩ := H5.out.net.keep hW
            exact nlen_any w.heap.size P n' W h1
          generalize hNL : n'.L.length = NL at *
          generalize hSE : n'.se = SE at *
          generalize hTA : n'.ta = TA' at *
          generalize hLO : n'.lo = LO at *
          have hw1 : wrap64 ((TA' : Int) + (LO : Int)) = (TA' : Int) + (LO : Int) := (sum3 TA' LO NL (k + 1) bd2 bd3 hln (by omega)).1
          have hw2 : wrap64 ((TA' : Int) + (LO : Int) + (NL : Int)) = (TA' : Int) + (LO : Int) + (NL : Int) := (sum3 TA' LO NL (k + 1) bd2 bd3 hln (by omega)).2
          have hbn : ((SE : Int) != (TA' : Int) + (LO : Int) + (NL : Int)) = false := sum3n hinv
          clear hNL hSE hTA hLO hinv hln bd1 bd2 bd3 bd4 h5
          go_wp2_with fail
          refine CT.out.mono ?_
          rintro e w6 ⟨rfl, h6, k6⟩
          have H6 := hid (H5.out.keep k6)
          have LN6 := hid (LN.out w6 k6)
          clear h6 k6 LN CT H5
          go_wp2_with fail
          refine LN6.out.mono ?_
          rintro e w7 ⟨rfl, rfl⟩
          go_wp2
          exact ⟨⟨k + 1, ads, caps, n', SL, by omega, by omega, rfl, by go_num, H6⟩, by simp [intOf]; omega⟩
    · have HKE := hid HT.out.net.kp
      by_cases hl : k < l.length
      · have hk8 : k = 100 := by omega
        subst hk8
        have hk1 : ((100 : Nat) : Int) < (l.length : Int) := by omega
        have hd8 : decide ((100 : Int) < 100) = false := by decide
        clear HT HCL HXS
        go_wp2
        go_ret
        exact ⟨rfl, keep_below HKE.out (fun _ _ h => h) (Nat.le_refl _)⟩
      · have hdl : decide ((k : Int) < (l.length : Int)) = false := decide_eq_false (by omega)
        clear HT HCL HXS
        go_wp2
        go_ret
        exact ⟨rfl, keep_below HKE.out (fun _ _ h => h) (Nat.le_refl _)⟩
end Go.Proofs.Ytfcchmjofejkhaa
