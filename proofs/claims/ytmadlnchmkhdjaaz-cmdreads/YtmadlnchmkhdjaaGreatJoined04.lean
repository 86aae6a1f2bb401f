/- Joined: Which texts are digests, and which pieces may be: both sides. Which pieces may be, and their size: both sides. Which versions may be: both sides. Which versions may be, by the document. Which lists are chains: both sides. Which parts may be: the program's Check and the reference's. -/
import Derived.Test.YtmadlnchmkhdjaaGreatJoined03
import Derived.Test.YtmadlnchmkhdjaaGreatJoined02
import Derived.Deep.RegionHeld3
namespace Go.Proofs.YtmadlnchmkhdjaaGreat
open Go.RowKit Go.Maps
set_option linter.unusedVariables false
set_option linter.unusedSimpArgs false

theorem all_at (l : List UInt8) (k : Nat) (hk : k < l.length) : (l.drop k).all dgC = (dgC l[k] && (l.drop (k + 1)).all dgC) := by
  rw [List.drop_eq_getElem_cons hk]; rfl
set_option maxRecDepth 100000 in
set_option maxHeartbeats 1000000 in
theorem isDigest_any (s : ByteArray) (w : World) : Calls Tryz.prog 71 #[.string s] w fun e w' => e = .returned (.bool (isDg s)) ∧ Below w.heap.size w w' := by
  by_cases h : s.size = 64
  · have HI : Hid (isDg s = (s.data.toList.drop 0).all dgC) := by show _ = _; unfold isDg; simp [h]
    have HA : Hid (∀ k (hk : k < s.data.toList.length), (s.data.toList.drop k).all dgC = (dgC s.data.toList[k] && (s.data.toList.drop (k + 1)).all dgC)) := fun k hk => all_at _ k hk
    have hz : s.data.toList.length = s.size := by simp
    generalize isDg s = R at *
    have hn : ((s.size : Int) != 64) = false := by rw [h]; rfl
    have hn2 : (s.size == 64) = true := by rw [h]; rfl
    have HZ := hid hz
    have H64 := hid h
    clear h hz
    go_enter Tryz.func71, Tryz.ntmps71
    go_wp2
    go_loopw [10] (fun i wr => ∃ k : Nat, k ≤ s.size ∧ i = .int .i64 (k : Int) ∧ Hid (Below w.heap.size w wr) ∧ Hid (R = (s.data.toList.drop k).all dgC)) (fun i _ => s.size - (intOf i).toNat)
    case atStart => exact ⟨0, Nat.zero_le _, rfl, Below.refl _ _, HI⟩
    case round =>
      clear HI hn hn2
      obtain ⟨k, hk, rfl, HB, HR⟩ := hrel
      by_cases hlt : k < s.size
      · have hk0 : (0 : Int) ≤ (k : Int) := by omega
        have hk1 : (k : Int) < (s.size : Int) := by omega
        have HLT := hid hlt
        have hkl : k < s.data.toList.length := by rw [HZ.out]; exact hlt
        have HC : s.data.toList[k] = s[k] := rfl
        have HS : Hid (R = (dgC s[k] && (s.data.toList.drop (k + 1)).all dgC)) := by show _ = _; rw [HR.out, HA.out k hkl, HC]
        have HD : Hid (dgC s[k] = decide (0 ≤ halfN s[k].toNat)) := rfl
        clear HR HA HZ HC
        generalize hc : s[k] = c at HS HD
        have hwk : wrap64 ((k : Int) + 1) = ((k + 1 : Nat) : Int) := by have := H64.out; rw [IntWalk.wrap64_in _ (by omega)]; omega
        have hcl := UInt8.toNat_lt c
        clear hlt hk
        by_cases h1 : 48 ≤ c.toNat ∧ c.toNat ≤ 57
        · have HS2 : Hid (R = (s.data.toList.drop (k + 1)).all dgC) := by
            show _ = _
            rw [HS.out, HD.out, decide_eq_true (by unfold halfN; rw [if_pos h1]; omega), Bool.true_and]
          have h4 : decide ((c.toNat : Int) < 48) = false := decide_eq_false (by omega)
          have h5 : decide (57 < (c.toNat : Int)) = false := decide_eq_false (by omega)
          clear HS HD h1 hcl
          go_wp2
          exact ⟨⟨k + 1, HLT.out, by first | rw [hwk] | rfl | simp, HB, HS2⟩, by rw [hwk]; have := HLT.out; simp [intOf]; omega⟩
        · by_cases h2 : 97 ≤ c.toNat ∧ c.toNat ≤ 102
          · have HS2 : Hid (R = (s.data.toList.drop (k + 1)).all dgC) := by
              show _ = _
              rw [HS.out, HD.out, decide_eq_true (by unfold halfN; rw [if_neg h1, if_pos h2]; omega), Bool.true_and]
            have h3 : decide ((c.toNat : Int) < 48) = false := decide_eq_false (by omega)
            have h4 : decide ((c.toNat : Int) < 97) = false := decide_eq_false (by omega)
            have h5 : decide (102 < (c.toNat : Int)) = false := decide_eq_false (by omega)
            have h6 : decide (57 < (c.toNat : Int)) = true := decide_eq_true (by omega)
            clear HS HD h1 h2 hcl
            go_wp2
            exact ⟨⟨k + 1, HLT.out, by first | rw [hwk] | rfl | simp, HB, HS2⟩, by rw [hwk]; have := HLT.out; simp [intOf]; omega⟩
          · have HS2 : Hid (R = false) := by
              show _ = _
              rw [HS.out, HD.out, decide_eq_false (by unfold halfN; rw [if_neg h1, if_neg h2]; omega), Bool.false_and]
            have hr := HS2.out
            subst hr
            clear HS HD HS2
            by_cases h3 : c.toNat < 48
            · have h4 : decide ((c.toNat : Int) < 48) = true := decide_eq_true (by omega)
              have h5 : decide ((c.toNat : Int) < 97) = true := decide_eq_true (by omega)
              clear h1 h2 hcl h3
              go_wp2
              go_ret
              exact ⟨rfl, HB.out⟩
            · have h4 : decide ((c.toNat : Int) < 48) = false := decide_eq_false (by omega)
              have h6 : decide (57 < (c.toNat : Int)) = true := decide_eq_true (by omega)
              by_cases h7 : c.toNat < 97
              · have h5 : decide ((c.toNat : Int) < 97) = true := decide_eq_true (by omega)
                clear h1 h2 hcl h3 h7
                go_wp2
                go_ret
                exact ⟨rfl, HB.out⟩
              · have h5 : decide ((c.toNat : Int) < 97) = false := decide_eq_false (by omega)
                have h8 : decide (102 < (c.toNat : Int)) = true := decide_eq_true (by omega)
                clear h1 h2 hcl h3 h7
                go_wp2
                go_ret
                exact ⟨rfl, HB.out⟩
      · have hke : k = s.size := by omega
        have hd : decide ((k : Int) < (s.size : Int)) = false := decide_eq_false (by omega)
        have HS2 : Hid (R = true) := by
          show _ = _
          rw [HR.out, hke, ← HZ.out, List.drop_length]; rfl
        have hr := HS2.out
        subst hr
        clear HR HA HZ HS2 hke
        go_wp2
        go_ret
        exact ⟨rfl, HB.out⟩
  · have HI : isDg s = false := by unfold isDg; simp [h]
    rw [HI]
    have hn : ((s.size : Int) != 64) = true := by rw [bne_iff_ne]; omega
    have hn2 : (s.size == 64) = false := by rw [beq_eq_false_iff_ne]; exact h
    clear HI h
    go_enter Tryz.func71, Tryz.ntmps71
    go_wp2
    go_ret
    exact ⟨rfl, Below.refl _ _⟩
set_option maxRecDepth 100000 in
set_option maxHeartbeats 1000000 in
theorem rmay6_any (s : ByteArray) (w : World) (hs : s.size ≤ 140737488355328) : Calls Tryz.prog 40 #[.string s] w fun e w' => e = .returned (.bool (isDg s)) ∧ Below w.heap.size w w' := by
  have U := hid (runhex_any s w hs (unh s.data.toList []).1 (unh s.data.toList []).2 rfl)
  have HI := hid (isDg_unh s)
  generalize isDg s = R at *
  generalize (unh s.data.toList []).1 = X at *
  generalize (unh s.data.toList []).2 = E at *
  clear hs
  have hz2 : decide (s.size = 64) = ((s.size : Int) == 64) := by
    by_cases h : s.size = 64
    · rw [h]; rfl
    · rw [decide_eq_false h, eq_comm, beq_eq_false_iff_ne]; omega
  rw [hz2] at HI
  clear hz2
  by_cases h0 : E = 0
  · subst h0
    have HR : Hid (R = ((s.size : Int) == 64)) := by have := HI.out; show _ = _; rw [this]; rfl
    clear HI
    by_cases h4 : s.size = 64
    · have hz : ((s.size : Int) == 64) = true := by rw [h4]; rfl
      have hz2 : (s.size == 64) = true := by rw [h4]; rfl
      have hr := HR.out
      rw [hz] at hr
      subst hr
      clear h4 HR
      go_enter Tryz.func40, Tryz.ntmps40
      go_wp2_with fail
      refine U.out.mono ?_
      rintro e w1 ⟨rfl, b1⟩
      have B1 := hid b1
      clear U b1
      go_wp2
      go_ret
      exact ⟨rfl, B1.out⟩
    · have hz : ((s.size : Int) == 64) = false := by rw [beq_eq_false_iff_ne]; omega
      have hz2 : (s.size == 64) = false := by rw [beq_eq_false_iff_ne]; exact h4
      have hr := HR.out
      rw [hz] at hr
      subst hr
      clear h4 HR
      go_enter Tryz.func40, Tryz.ntmps40
      go_wp2_with fail
      refine U.out.mono ?_
      rintro e w1 ⟨rfl, b1⟩
      have B1 := hid b1
      clear U b1
      go_wp2
      go_ret
      exact ⟨rfl, B1.out⟩
  · have hE : ((E : Int) == 0) = false := by rw [beq_eq_false_iff_ne]; omega
    have hr : R = false := by rw [HI.out, hE]; rfl
    subst hr
    clear HI h0
    go_enter Tryz.func40, Tryz.ntmps40
    go_wp2_with fail
    refine U.out.mono ?_
    rintro e w1 ⟨rfl, b1⟩
    have B1 := hid b1
    clear U b1
    go_wp2
    go_ret
    exact ⟨rfl, B1.out⟩
end Go.Proofs.YtmadlnchmkhdjaaGreat
namespace Go.Proofs.YtmadlnchmkhdjaaGreat
open Go.RowKit Go.Maps
set_option linter.unusedVariables false
set_option linter.unusedSimpArgs false

theorem pcs_bad {l : List Pc} {k : Nat} (hk : k < l.length) (h : pcOk l[k] = false) : pcE l = 1 ∧ pcV l = 0 := by
  have : pcsOk l = false := by
    unfold pcsOk
    rw [Bool.and_eq_false_iff]
    refine .inr ?_
    rw [List.all_eq_false]
    exact ⟨l[k], List.getElem_mem hk, by rw [h]; decide⟩
  unfold pcE pcV
  rw [this]
  exact ⟨rfl, rfl⟩
theorem pcs_long {l : List Pc} (h : 512 < l.length) : pcE l = 1 ∧ pcV l = 0 := by
  have : pcsOk l = false := by unfold pcsOk; rw [decide_eq_false (by omega)]; rfl
  unfold pcE pcV
  rw [this]
  exact ⟨rfl, rfl⟩
theorem pcs_good {l : List Pc} (h : l.length ≤ 512) (ha : ∀ p ∈ l, pcOk p = true) : pcE l = 0 ∧ pcV l = pcsN l := by
  have : pcsOk l = true := by unfold pcsOk; rw [decide_eq_true h, List.all_eq_true.2 ha]; rfl
  unfold pcE pcV
  rw [this]
  exact ⟨rfl, rfl⟩
theorem take_all {l : List Pc} {k : Nat} (hk : k < l.length) (h : ∀ p ∈ l.take k, pcOk p = true) (h1 : pcOk l[k] = true) : ∀ p ∈ l.take (k + 1), pcOk p = true := by
  rw [List.take_succ_eq_append_getElem hk]
  intro p hp
  rcases List.mem_append.1 hp with hp | hp
  · exact h p hp
  · rw [List.mem_singleton.1 hp]; exact h1
theorem pcN_tk {l : List Pc} {k : Nat} (h : ∀ p ∈ l.take k, pcOk p = true) : 0 ≤ pcsN (l.take k) ∧ pcsN (l.take k) ≤ 4096 * (k : Int) := by
  have := pcsN_bd _ h
  have h2 : (l.take k).length ≤ k := by simp; omega
  omega
set_option maxRecDepth 100000 in
set_option maxHeartbeats 1000000 in
theorem pieces_any (v : Value) (l : List Pc) (w : World) (hv : PcI w v l) : Calls Tryz.prog 109 #[v] w fun e w' => e = .returned (.tuple #[.int .i64 (pcV l), .int .i64 (pcE l)]) ∧ Below w.heap.size w w' := by
  obtain ⟨ad, cap, rfl, hc⟩ := hv.form
  have HC := hid hc
  have HBAD : Hid (∀ k (hk : k < l.length), pcOk l[k] = false → pcE l = 1 ∧ pcV l = 0) := fun k hk h => pcs_bad hk h
  have HGO := hid (fun h ha => pcs_good (l := l) h ha)
  have DG := hid (fun s W => isDigest_any s W)
  by_cases h5 : 512 < l.length
  · have h5i : decide (512 < (l.length : Int)) = true := decide_eq_true (by omega)
    have h5j : decide (512 < l.length) = true := decide_eq_true h5
    obtain ⟨e1, e2⟩ := pcs_long h5
    rw [e1, e2]
    clear hc hv HC HBAD HGO DG h5 e1 e2
    go_enter Tryz.func109, Tryz.ntmps109
    go_wp2
    go_ret2
    exact ⟨rfl, Below.refl _ _⟩
  have h5i : decide (512 < (l.length : Int)) = false := decide_eq_false (by omega)
  have h5j : decide (512 < l.length) = false := decide_eq_false h5
  have HL : Hid (l.length ≤ 512) := by show _ ≤ _; omega
  generalize pcE l = E at *
  generalize pcV l = V at *
  clear hc hv h5
  go_enter Tryz.func109, Tryz.ntmps109
  go_wp2
  go_loopw [4, 12] (fun z i wr => ∃ (k : Nat) (n : Int), k ≤ l.length ∧ z = .int .i64 n ∧ i = .int .i64 (k : Int) ∧ Hid (n = pcsN (l.take k)) ∧ Hid (Below w.heap.size w wr) ∧ Hid (∀ p ∈ l.take k, pcOk p = true)) (fun _ i _ => l.length - (intOf i).toNat)
  case atStart => exact ⟨0, 0, Nat.zero_le _, rfl, rfl, rfl, Below.refl _ _, fun p hp => by simp at hp⟩
  case round =>
    clear h5i h5j
    obtain ⟨k, n, hk, rfl, rfl, HN, HB, HG⟩ := hrel
    by_cases hlt : k < l.length
    · have hk1 : (k : Int) < (l.length : Int) := by omega
      have hk0 : (0 : Int) ≤ (k : Int) := by omega
      obtain ⟨b, off, rfl, hb, c0, c1⟩ := HC.out k hlt
      have d0 := (HB.out.cell (p := ⟨b, off + k * 2, none⟩) hb).trans c0
      have d1 := (HB.out.cell (p := ⟨b, off + k * 2 + 1, none⟩) hb).trans c1
      have HX : Hid (pcOk l[k] = (isDg l[k].id && decide (1 ≤ l[k].sz) && decide (l[k].sz ≤ 4096))) := rfl
      have HFA := hid (HBAD.out k hlt)
      have HG2 : Hid (pcOk l[k] = true → ∀ p ∈ l.take (k + 1), pcOk p = true) := fun h => take_all hlt HG.out h
      have HN2 : Hid (n + l[k].sz = pcsN (l.take (k + 1))) := by show _ = _; rw [pcsN_take l k hlt, HN.out]
      have hnb : 0 ≤ n ∧ n ≤ 4096 * (k : Int) := by have := pcN_tk HG.out; rw [HN.out]; exact this
      have hwk : wrap64 ((k : Int) + 1) = ((k + 1 : Nat) : Int) := by have := HL.out; rw [IntWalk.wrap64_in _ (by omega)]; omega
      have hkl : k < 512 := by have := HL.out; omega
      have HLT := hid hlt
      have D1 := hid (DG.out l[k].id)
      have HAL : Hid (∀ X, Below w.heap.size w (wr.alloc X)) := fun X => below_al HB.out _
      clear HC HBAD HGO DG HL c0 c1 hb HB HG HN
      generalize l[k] = p at *
      obtain ⟨id, sz⟩ := p
      simp only at *
      generalize pcOk ⟨id, sz⟩ = G at *
      have SR := hid (srow wr [.string id, .int .i64 sz] 107)
      have y0 := SR.out.cellAt (o := 0) rfl
      have y1 := SR.out.cellAt (o := 1) rfl
      generalize isDg id = DGV at *
      clear hlt hk
      go_wp2_with fail
      refine (D1.out _).mono ?_
      rintro e w1 ⟨rfl, b1⟩
      have z1 := (SR.out.keep (b1.keep (fun _ => False)) (fun h => h)).cellAt (o := 1) rfl
      have HB1 := hid (below_on (HAL.out _) b1)
      clear D1 b1 y0 y1 d0 d1 SR HAL
      cases DGV
      · obtain ⟨rfl, rfl⟩ := HFA.out (by rw [HX.out]; rfl)
        clear HX HFA HG2 HN2
        go_wp2
        go_ret2
        exact ⟨rfl, HB1.out⟩
      · by_cases g1 : sz < 1
        · have q1 : decide (sz < 1) = true := decide_eq_true g1
          obtain ⟨rfl, rfl⟩ := HFA.out (by rw [HX.out, decide_eq_false (by omega : ¬ 1 ≤ sz)]; rfl)
          clear HX HFA HG2 HN2 g1
          go_wp2
          go_ret2
          exact ⟨rfl, HB1.out⟩
        · have q1 : decide (sz < 1) = false := decide_eq_false g1
          by_cases g2 : 4096 < sz
          · have q2 : decide (4096 < sz) = true := decide_eq_true g2
            obtain ⟨rfl, rfl⟩ := HFA.out (by rw [HX.out, decide_eq_false (by omega : ¬ sz ≤ 4096)]; simp)
            clear HX HFA HG2 HN2 g1 g2
            go_wp2
            go_ret2
            exact ⟨rfl, HB1.out⟩
          · have q2 : decide (4096 < sz) = false := decide_eq_false g2
            have HG3 := hid (HG2.out (by rw [HX.out, decide_eq_true (by omega : 1 ≤ sz), decide_eq_true (by omega : sz ≤ 4096)]; rfl))
            have hwn : wrap64 (n + sz) = n + sz := IntWalk.wrap64_in _ (by omega)
            clear HX HFA HG2 g1 g2 hnb hkl
            go_wp2
            exact ⟨⟨k + 1, n + sz, HLT.out, by first | rw [hwn] | rfl | simp, by first | rw [hwk] | rfl | simp, HN2, HB1, HG3⟩, by rw [hwk]; have := HLT.out; simp [intOf]; omega⟩
    · have hke : k = l.length := by omega
      have hd : decide ((k : Int) < (l.length : Int)) = false := decide_eq_false (by omega)
      have hd2 : decide (k < l.length) = false := decide_eq_false hlt
      obtain ⟨rfl, rfl⟩ := HGO.out HL.out (by have := HG.out; rw [hke, List.take_length] at this; exact this)
      have HN2 : Hid (n = pcsN l) := by have := HN.out; rw [hke, List.take_length] at this; exact this
      clear HC HBAD HGO DG HL HG HN hke hlt hk
      go_wp2
      go_ret2
      rw [HN2.out]
      exact ⟨rfl, HB.out⟩
set_option maxRecDepth 100000 in
set_option maxHeartbeats 1000000 in
theorem rpieces_any (v : Value) (l : List Pc) (w : World) (hv : PcI w v l) (hl : l.length ≤ 8796093022208) (hs : ∀ p ∈ l, p.id.size ≤ 140737488355328) : Calls Tryz.prog 38 #[v] w fun e w' => e = .returned (.tuple #[.int .i64 (pcV l), .int .i64 (pcE l)]) ∧ Below w.heap.size w w' := by
  obtain ⟨ad, cap, rfl, hc⟩ := hv.form
  have HC := hid hc
  have HBAD : Hid (∀ k (hk : k < l.length), pcOk l[k] = false → pcE l = 1 ∧ pcV l = 0) := fun k hk h => pcs_bad hk h
  have HGO := hid (fun h ha => pcs_good (l := l) h ha)
  have HLO := hid (fun h => pcs_long (l := l) h)
  have DG : Hid (∀ (k : Nat) (hk : k < l.length) (W : World), Calls Tryz.prog 40 #[.string l[k].id] W fun e w' => e = .returned (.bool (isDg l[k].id)) ∧ Below W.heap.size W w') := fun k hk W => rmay6_any _ W (hs _ (List.getElem_mem hk))
  have HL := hid hl
  generalize pcE l = E at *
  generalize pcV l = V at *
  clear hc hv hl hs
  go_enter Tryz.func38, Tryz.ntmps38
  go_wp2
  go_loopw [4, 5] (fun z i wr => ∃ (k : Nat) (n : Int), k ≤ l.length ∧ z = .int .i64 n ∧ i = .int .i64 (k : Int) ∧ Hid (n = pcsN (l.take k)) ∧ Hid (Below w.heap.size w wr) ∧ Hid (∀ p ∈ l.take k, pcOk p = true)) (fun _ i _ => l.length - (intOf i).toNat)
  case atStart => exact ⟨0, 0, Nat.zero_le _, rfl, rfl, rfl, Below.refl _ _, fun p hp => by simp at hp⟩
  case round =>
    obtain ⟨k, n, hk, rfl, rfl, HN, HB, HG⟩ := hrel
    by_cases hlt : k < l.length
    · have hk1 : (k : Int) < (l.length : Int) := by omega
      have hk0 : (0 : Int) ≤ (k : Int) := by omega
      obtain ⟨b, off, rfl, hb, c0, c1⟩ := HC.out k hlt
      have d0 := (HB.out.cell (p := ⟨b, off + k * 2, none⟩) hb).trans c0
      have hbr : b < wr.heap.size := Nat.lt_of_lt_of_le hb HB.out.size
      have d1 := hid ((HB.out.cell (p := ⟨b, off + k * 2 + 1, none⟩) hb).trans c1)
      have HBR := hid hbr
      have HX : Hid (pcOk l[k] = (isDg l[k].id && decide (1 ≤ l[k].sz) && decide (l[k].sz ≤ 4096))) := rfl
      have HFA := hid (HBAD.out k hlt)
      have HG2 : Hid (pcOk l[k] = true → ∀ p ∈ l.take (k + 1), pcOk p = true) := fun h => take_all hlt HG.out h
      have HN2 : Hid (n + l[k].sz = pcsN (l.take (k + 1))) := by show _ = _; rw [pcsN_take l k hlt, HN.out]
      have hnb : 0 ≤ n ∧ n ≤ 4096 * (k : Int) := by have := pcN_tk HG.out; rw [HN.out]; exact this
      have hwk : wrap64 ((k : Int) + 1) = ((k + 1 : Nat) : Int) := by have := HL.out; rw [IntWalk.wrap64_in _ (by omega)]; omega
      have hkl : k < 8796093022208 := by have := HL.out; omega
      have HLT := hid hlt
      have D1 := hid (DG.out k hlt)
      clear HC HBAD HGO DG HL c0 c1 hb HG HN hbr HLO
      generalize l[k] = p at *
      obtain ⟨id, sz⟩ := p
      simp only at *
      generalize pcOk ⟨id, sz⟩ = G at *
      generalize isDg id = DGV at *
      clear hlt hk
      go_wp2_with fail
      refine (D1.out _).mono ?_
      rintro e w1 ⟨rfl, b1⟩
      have z1 := (b1.cell (p := ⟨b, off + k * 2 + 1, none⟩) HBR.out).trans d1.out
      have HB1 := hid (below_on HB.out b1)
      clear D1 b1 d0 d1 HBR HB
      cases DGV
      · obtain ⟨rfl, rfl⟩ := HFA.out (by rw [HX.out]; rfl)
        clear HX HFA HG2 HN2
        go_wp2
        go_ret2
        exact ⟨rfl, HB1.out⟩
      · by_cases g1 : sz < 1
        · have q1 : decide (sz < 1) = true := decide_eq_true g1
          obtain ⟨rfl, rfl⟩ := HFA.out (by rw [HX.out, decide_eq_false (by omega : ¬ 1 ≤ sz)]; rfl)
          clear HX HFA HG2 HN2 g1
          go_wp2
          go_ret2
          exact ⟨rfl, HB1.out⟩
        · have q1 : decide (sz < 1) = false := decide_eq_false g1
          by_cases g2 : 4096 < sz
          · have q2 : decide (4096 < sz) = true := decide_eq_true g2
            obtain ⟨rfl, rfl⟩ := HFA.out (by rw [HX.out, decide_eq_false (by omega : ¬ sz ≤ 4096)]; simp)
            clear HX HFA HG2 HN2 g1 g2
            go_wp2
            go_ret2
            exact ⟨rfl, HB1.out⟩
          · have q2 : decide (4096 < sz) = false := decide_eq_false g2
            have HG3 := hid (HG2.out (by rw [HX.out, decide_eq_true (by omega : 1 ≤ sz), decide_eq_true (by omega : sz ≤ 4096)]; rfl))
            have hwn : wrap64 (n + sz) = n + sz := IntWalk.wrap64_in _ (by omega)
            clear HX HFA HG2 g1 g2 hnb hkl
            go_wp2
            exact ⟨⟨k + 1, n + sz, HLT.out, by first | rw [hwn] | rfl | simp, by first | rw [hwk] | rfl | simp, HN2, HB1, HG3⟩, by rw [hwk]; have := HLT.out; simp [intOf]; omega⟩
    · have hke : k = l.length := by omega
      have hd : decide ((k : Int) < (l.length : Int)) = false := decide_eq_false (by omega)
      have hd2 : decide (k < l.length) = false := decide_eq_false hlt
      have HGA : Hid (∀ p ∈ l, pcOk p = true) := by have := HG.out; rw [hke, List.take_length] at this; exact this
      have HN2 : Hid (n = pcsN l) := by have := HN.out; rw [hke, List.take_length] at this; exact this
      by_cases h5 : 512 < l.length
      · have h5i : decide (512 < (l.length : Int)) = true := decide_eq_true (by omega)
        have h5j : decide (512 < l.length) = true := decide_eq_true h5
        obtain ⟨rfl, rfl⟩ := HLO.out h5
        clear HC HBAD HGO DG HL HG HN hke hlt hk HLO HGA HN2 h5
        go_wp2
        go_ret2
        exact ⟨rfl, HB.out⟩
      · have h5i : decide (512 < (l.length : Int)) = false := decide_eq_false (by omega)
        have h5j : decide (512 < l.length) = false := decide_eq_false h5
        obtain ⟨rfl, rfl⟩ := HGO.out (by omega) HGA.out
        clear HC HBAD HGO DG HL HG HN hke hlt hk HLO HGA h5
        go_wp2
        go_ret2
        rw [HN2.out]
        exact ⟨rfl, HB.out⟩
end Go.Proofs.YtmadlnchmkhdjaaGreat
namespace Go.Proofs.YtmadlnchmkhdjaaGreat
open Go.RowKit Go.Maps
set_option linter.unusedVariables false
set_option linter.unusedSimpArgs false

theorem nil_str {s : ByteArray} (h : s.size = 0) : s = ⟨#[]⟩ := by
  apply ByteArray.ext
  exact Array.eq_empty_of_size_eq_zero h
theorem str_ne {s : ByteArray} (h : s.size ≠ 0) : ¬ s.toList = [] := by
  intro e
  rw [ByteArray.toList_eq s] at e
  have : s.data.toList.length = 0 := by rw [e]; rfl
  exact h (by simpa using this)
theorem pcE_cases (l : List Pc) : (pcsOk l = true ∧ pcE l = 0 ∧ pcV l = pcsN l) ∨ (pcsOk l = false ∧ pcE l = 1 ∧ pcV l = 0) := by
  unfold pcE pcV
  cases h : pcsOk l
  · exact .inr ⟨rfl, rfl, rfl⟩
  · exact .inl ⟨rfl, rfl, rfl⟩
end Go.Proofs.YtmadlnchmkhdjaaGreat
namespace Go.Proofs.YtmadlnchmkhdjaaGreat
open Go.RowKit Go.Maps
set_option linter.unusedVariables false
set_option linter.unusedSimpArgs false

end Go.Proofs.YtmadlnchmkhdjaaGreat
namespace Go.Proofs.YtmadlnchmkhdjaaGreat
open Go.RowKit Go.Maps
set_option linter.unusedVariables false
set_option linter.unusedSimpArgs false

theorem ch_bad {q : List (Value × Vn)} {R : Bool} {k : Nat} (hk : k < q.length) (hR : R = chF (prevI (vqL q) k) ((vqL q).drop k)) (h : vnOk q[k].2 = false ∨ vnBelow (prevI (vqL q) k) q[k].2.id = false) : R = false := by
  rw [hR, chF_at (vqL q) k (by rw [vqL_len]; exact hk), vqL_get q k hk]
  rcases h with h | h
  · rw [h]; rfl
  · rw [h]; simp
theorem ch_go {q : List (Value × Vn)} {R : Bool} {k : Nat} (hk : k < q.length) (hR : R = chF (prevI (vqL q) k) ((vqL q).drop k)) (h1 : vnOk q[k].2 = true) (h2 : vnBelow (prevI (vqL q) k) q[k].2.id = true) : R = chF (prevI (vqL q) (k + 1)) ((vqL q).drop (k + 1)) := by
  rw [hR, chF_at (vqL q) k (by rw [vqL_len]; exact hk), vqL_get q k hk, h1, h2]; rfl
theorem prev_at {q : List (Value × Vn)} {m : Nat} (hm : m < q.length) : prevI (vqL q) (m + 1) = some q[m].2.id := by
  rw [prevI_succ (vqL q) m (by rw [vqL_len]; exact hm), vqL_get q m hm]
theorem vnE_cases (x : Vn) : (vnOk x = true ∧ vnE x = 0) ∨ (vnOk x = false ∧ vnE x = 1) := by
  unfold vnE
  cases h : vnOk x
  · exact .inr ⟨rfl, rfl⟩
  · exact .inl ⟨rfl, rfl⟩
end Go.Proofs.YtmadlnchmkhdjaaGreat
namespace Go.Proofs.YtmadlnchmkhdjaaGreat
open Go.RowKit Go.Maps
set_option linter.unusedVariables false
set_option linter.unusedSimpArgs false

/-- a part -/
structure Pt where
  n : Int
  sz : Int
  sum : ByteArray
  ps : List Pc
def ptOk (x : Pt) : Bool := pcsOk x.ps && decide (x.sz = pcV x.ps) && decide (1 ≤ x.n) && decide (x.n ≤ 100) && isDg x.sum
def ptE (x : Pt) : Int := if ptOk x = true then 0 else 1
def ptV (y : Value × Pt) : Value := .agg #[.int .i64 y.2.n, .int .i64 y.2.sz, .string y.2.sum, y.1]
end Go.Proofs.YtmadlnchmkhdjaaGreat
