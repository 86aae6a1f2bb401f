/- Which pieces may be, and their size: both sides. -/
import Derived.Test.YtbiapepalkdkdaaCvA
namespace Go.Proofs.Ytbiapepalkdkdaa
open Go.RowKit Go.Maps
set_option linter.unusedVariables false
set_option linter.unusedSimpArgs false

theorem pcs_bad {l : List Pc} {k : Nat} (hk : k < l.length) (h : pcOk l[k] = false) : pcE l = 1 ∧ pcV l = 0 := by
  have : pcsOk l = false := by
    unfold pcsOk
    rw [Bool.and_eq_false_iff]
    refine .inr ?_
    rw [List.all_eq_false]
    exact ⟨l[k], List.getElem_mem hk, by rw [h]; decide⟩
  unfold pcE pcV
  rw [this]
  exact ⟨rfl, rfl⟩
theorem pcs_long {l : List Pc} (h : 512 < l.length) : pcE l = 1 ∧ pcV l = 0 := by
  have : pcsOk l = false := by unfold pcsOk; rw [decide_eq_false (by omega)]; rfl
  unfold pcE pcV
  rw [this]
  exact ⟨rfl, rfl⟩
theorem pcs_good {l : List Pc} (h : l.length ≤ 512) (ha : ∀ p ∈ l, pcOk p = true) : pcE l = 0 ∧ pcV l = pcsN l := by
  have : pcsOk l = true := by unfold pcsOk; rw [decide_eq_true h, List.all_eq_true.2 ha]; rfl
  unfold pcE pcV
  rw [this]
  exact ⟨rfl, rfl⟩
theorem take_all {l : List Pc} {k : Nat} (hk : k < l.length) (h : ∀ p ∈ l.take k, pcOk p = true) (h1 : pcOk l[k] = true) : ∀ p ∈ l.take (k + 1), pcOk p = true := by
  rw [List.take_succ_eq_append_getElem hk]
  intro p hp
  rcases List.mem_append.1 hp with hp | hp
  · exact h p hp
  · rw [List.mem_singleton.1 hp]; exact h1
theorem pcN_tk {l : List Pc} {k : Nat} (h : ∀ p ∈ l.take k, pcOk p = true) : 0 ≤ pcsN (l.take k) ∧ pcsN (l.take k) ≤ 4096 * (k : Int) := by
  have := pcsN_bd _ h
  have h2 : (l.take k).length ≤ k := by simp; omega
  omega
set_option maxRecDepth 100000 in
set_option maxHeartbeats 1000000 in
theorem pieces_any (v : Value) (l : List Pc) (w : World) (hv : PcI w v l) : Calls Try.prog 9 #[v] w fun e w' => e = .returned (.tuple #[.int .i64 (pcV l), .int .i64 (pcE l)]) ∧ Below w.heap.size w w' := by
  obtain ⟨ad, cap, rfl, hc⟩ := hv.form
  have HC := hid hc
  have HBAD : Hid (∀ k (hk : k < l.length), pcOk l[k] = false → pcE l = 1 ∧ pcV l = 0) := fun k hk h => pcs_bad hk h
  have HGO := hid (fun h ha => pcs_good (l := l) h ha)
  have DG := hid (fun s W => isDigest_any s W)
  by_cases h5 : 512 < l.length
  · have h5i : decide (512 < (l.length : Int)) = true := decide_eq_true (by omega)
    have h5j : decide (512 < l.length) = true := decide_eq_true h5
    obtain ⟨e1, e2⟩ := pcs_long h5
    rw [e1, e2]
    clear hc hv HC HBAD HGO DG h5 e1 e2
    go_enter Try.func9, Try.ntmps9
    go_wp2
    go_ret2
    exact ⟨rfl, Below.refl _ _⟩
  have h5i : decide (512 < (l.length : Int)) = false := decide_eq_false (by omega)
  have h5j : decide (512 < l.length) = false := decide_eq_false h5
  have HL : Hid (l.length ≤ 512) := by show _ ≤ _; omega
  generalize pcE l = E at *
  generalize pcV l = V at *
  clear hc hv h5
  go_enter Try.func9, Try.ntmps9
  go_wp2
  go_loopw [4, 12] (fun z i wr => ∃ (k : Nat) (n : Int), k ≤ l.length ∧ z = .int .i64 n ∧ i = .int .i64 (k : Int) ∧ Hid (n = pcsN (l.take k)) ∧ Hid (Below w.heap.size w wr) ∧ Hid (∀ p ∈ l.take k, pcOk p = true)) (fun _ i _ => l.length - (intOf i).toNat)
  case atStart => exact ⟨0, 0, Nat.zero_le _, rfl, rfl, rfl, Below.refl _ _, fun p hp => by simp at hp⟩
  case round =>
    clear h5i h5j
    obtain ⟨k, n, hk, rfl, rfl, HN, HB, HG⟩ := hrel
    by_cases hlt : k < l.length
    · have hk1 : (k : Int) < (l.length : Int) := by omega
      have hk0 : (0 : Int) ≤ (k : Int) := by omega
      obtain ⟨b, off, rfl, hb, c0, c1⟩ := HC.out k hlt
      have d0 := (HB.out.cell (p := ⟨b, off + k * 2, none⟩) hb).trans c0
      have d1 := (HB.out.cell (p := ⟨b, off + k * 2 + 1, none⟩) hb).trans c1
      have HX : Hid (pcOk l[k] = (isDg l[k].id && decide (1 ≤ l[k].sz) && decide (l[k].sz ≤ 4096))) := rfl
      have HFA := hid (HBAD.out k hlt)
      have HG2 : Hid (pcOk l[k] = true → ∀ p ∈ l.take (k + 1), pcOk p = true) := fun h => take_all hlt HG.out h
      have HN2 : Hid (n + l[k].sz = pcsN (l.take (k + 1))) := by show _ = _; rw [pcsN_take l k hlt, HN.out]
      have hnb : 0 ≤ n ∧ n ≤ 4096 * (k : Int) := by have := pcN_tk HG.out; rw [HN.out]; exact this
      have hwk : wrap64 ((k : Int) + 1) = ((k + 1 : Nat) : Int) := by have := HL.out; rw [IntWalk.wrap64_in _ (by omega)]; omega
      have hkl : k < 512 := by have := HL.out; omega
      have HLT := hid hlt
      have D1 := hid (DG.out l[k].id)
      have HAL : Hid (∀ X, Below w.heap.size w (wr.alloc X)) := fun X => below_al HB.out _
      clear HC HBAD HGO DG HL c0 c1 hb HB HG HN
      generalize l[k] = p at *
      obtain ⟨id, sz⟩ := p
      simp only at *
      generalize pcOk ⟨id, sz⟩ = G at *
      have SR := hid (srow wr [.string id, .int .i64 sz] 72)
      have y0 := SR.out.cellAt (o := 0) rfl
      have y1 := SR.out.cellAt (o := 1) rfl
      generalize isDg id = DGV at *
      clear hlt hk
      go_wp2_with fail
      refine (D1.out _).mono ?_
      rintro e w1 ⟨rfl, b1⟩
      have z1 := (SR.out.keep (b1.keep (fun _ => False)) (fun h => h)).cellAt (o := 1) rfl
      have HB1 := hid (below_on (HAL.out _) b1)
      clear D1 b1 y0 y1 d0 d1 SR HAL
      cases DGV
      · obtain ⟨rfl, rfl⟩ := HFA.out (by rw [HX.out]; rfl)
        clear HX HFA HG2 HN2
        go_wp2
        go_ret2
        exact ⟨rfl, HB1.out⟩
      · by_cases g1 : sz < 1
        · have q1 : decide (sz < 1) = true := decide_eq_true g1
          obtain ⟨rfl, rfl⟩ := HFA.out (by rw [HX.out, decide_eq_false (by omega : ¬ 1 ≤ sz)]; rfl)
          clear HX HFA HG2 HN2 g1
          go_wp2
          go_ret2
          exact ⟨rfl, HB1.out⟩
        · have q1 : decide (sz < 1) = false := decide_eq_false g1
          by_cases g2 : 4096 < sz
          · have q2 : decide (4096 < sz) = true := decide_eq_true g2
            obtain ⟨rfl, rfl⟩ := HFA.out (by rw [HX.out, decide_eq_false (by omega : ¬ sz ≤ 4096)]; simp)
            clear HX HFA HG2 HN2 g1 g2
            go_wp2
            go_ret2
            exact ⟨rfl, HB1.out⟩
          · have q2 : decide (4096 < sz) = false := decide_eq_false g2
            have HG3 := hid (HG2.out (by rw [HX.out, decide_eq_true (by omega : 1 ≤ sz), decide_eq_true (by omega : sz ≤ 4096)]; rfl))
            have hwn : wrap64 (n + sz) = n + sz := IntWalk.wrap64_in _ (by omega)
            clear HX HFA HG2 g1 g2 hnb hkl
            go_wp2
            exact ⟨⟨k + 1, n + sz, HLT.out, by first | rw [hwn] | rfl | simp, by first | rw [hwk] | rfl | simp, HN2, HB1, HG3⟩, by rw [hwk]; have := HLT.out; simp [intOf]; omega⟩
    · have hke : k = l.length := by omega
      have hd : decide ((k : Int) < (l.length : Int)) = false := decide_eq_false (by omega)
      have hd2 : decide (k < l.length) = false := decide_eq_false hlt
      obtain ⟨rfl, rfl⟩ := HGO.out HL.out (by have := HG.out; rw [hke, List.take_length] at this; exact this)
      have HN2 : Hid (n = pcsN l) := by have := HN.out; rw [hke, List.take_length] at this; exact this
      clear HC HBAD HGO DG HL HG HN hke hlt hk
      go_wp2
      go_ret2
      rw [HN2.out]
      exact ⟨rfl, HB.out⟩
set_option maxRecDepth 100000 in
set_option maxHeartbeats 1000000 in
theorem rpieces_any (v : Value) (l : List Pc) (w : World) (hv : PcI w v l) (hl : l.length ≤ 8796093022208) (hs : ∀ p ∈ l, p.id.size ≤ 140737488355328) : Calls Try.prog 10 #[v] w fun e w' => e = .returned (.tuple #[.int .i64 (pcV l), .int .i64 (pcE l)]) ∧ Below w.heap.size w w' := by
  obtain ⟨ad, cap, rfl, hc⟩ := hv.form
  have HC := hid hc
  have HBAD : Hid (∀ k (hk : k < l.length), pcOk l[k] = false → pcE l = 1 ∧ pcV l = 0) := fun k hk h => pcs_bad hk h
  have HGO := hid (fun h ha => pcs_good (l := l) h ha)
  have HLO := hid (fun h => pcs_long (l := l) h)
  have DG : Hid (∀ (k : Nat) (hk : k < l.length) (W : World), Calls Try.prog 35 #[.string l[k].id] W fun e w' => e = .returned (.bool (isDg l[k].id)) ∧ Below W.heap.size W w') := fun k hk W => rmay6_any _ W (hs _ (List.getElem_mem hk))
  have HL := hid hl
  generalize pcE l = E at *
  generalize pcV l = V at *
  clear hc hv hl hs
  go_enter Try.func10, Try.ntmps10
  go_wp2
  go_loopw [4, 5] (fun z i wr => ∃ (k : Nat) (n : Int), k ≤ l.length ∧ z = .int .i64 n ∧ i = .int .i64 (k : Int) ∧ Hid (n = pcsN (l.take k)) ∧ Hid (Below w.heap.size w wr) ∧ Hid (∀ p ∈ l.take k, pcOk p = true)) (fun _ i _ => l.length - (intOf i).toNat)
  case atStart => exact ⟨0, 0, Nat.zero_le _, rfl, rfl, rfl, Below.refl _ _, fun p hp => by simp at hp⟩
  case round =>
    obtain ⟨k, n, hk, rfl, rfl, HN, HB, HG⟩ := hrel
    by_cases hlt : k < l.length
    · have hk1 : (k : Int) < (l.length : Int) := by omega
      have hk0 : (0 : Int) ≤ (k : Int) := by omega
      obtain ⟨b, off, rfl, hb, c0, c1⟩ := HC.out k hlt
      have d0 := (HB.out.cell (p := ⟨b, off + k * 2, none⟩) hb).trans c0
      have hbr : b < wr.heap.size := Nat.lt_of_lt_of_le hb HB.out.size
      have d1 := hid ((HB.out.cell (p := ⟨b, off + k * 2 + 1, none⟩) hb).trans c1)
      have HBR := hid hbr
      have HX : Hid (pcOk l[k] = (isDg l[k].id && decide (1 ≤ l[k].sz) && decide (l[k].sz ≤ 4096))) := rfl
      have HFA := hid (HBAD.out k hlt)
      have HG2 : Hid (pcOk l[k] = true → ∀ p ∈ l.take (k + 1), pcOk p = true) := fun h => take_all hlt HG.out h
      have HN2 : Hid (n + l[k].sz = pcsN (l.take (k + 1))) := by show _ = _; rw [pcsN_take l k hlt, HN.out]
      have hnb : 0 ≤ n ∧ n ≤ 4096 * (k : Int) := by have := pcN_tk HG.out; rw [HN.out]; exact this
      have hwk : wrap64 ((k : Int) + 1) = ((k + 1 : Nat) : Int) := by have := HL.out; rw [IntWalk.wrap64_in _ (by omega)]; omega
      have hkl : k < 8796093022208 := by have := HL.out; omega
      have HLT := hid hlt
      have D1 := hid (DG.out k hlt)
      clear HC HBAD HGO DG HL c0 c1 hb HG HN hbr HLO
      generalize l[k] = p at *
      obtain ⟨id, sz⟩ := p
      simp only at *
      generalize pcOk ⟨id, sz⟩ = G at *
      generalize isDg id = DGV at *
      clear hlt hk
      go_wp2_with fail
      refine (D1.out _).mono ?_
      rintro e w1 ⟨rfl, b1⟩
      have z1 := (b1.cell (p := ⟨b, off + k * 2 + 1, none⟩) HBR.out).trans d1.out
      have HB1 := hid (below_on HB.out b1)
      clear D1 b1 d0 d1 HBR HB
      cases DGV
      · obtain ⟨rfl, rfl⟩ := HFA.out (by rw [HX.out]; rfl)
        clear HX HFA HG2 HN2
        go_wp2
        go_ret2
        exact ⟨rfl, HB1.out⟩
      · by_cases g1 : sz < 1
        · have q1 : decide (sz < 1) = true := decide_eq_true g1
          obtain ⟨rfl, rfl⟩ := HFA.out (by rw [HX.out, decide_eq_false (by omega : ¬ 1 ≤ sz)]; rfl)
          clear HX HFA HG2 HN2 g1
          go_wp2
          go_ret2
          exact ⟨rfl, HB1.out⟩
        · have q1 : decide (sz < 1) = false := decide_eq_false g1
          by_cases g2 : 4096 < sz
          · have q2 : decide (4096 < sz) = true := decide_eq_true g2
            obtain ⟨rfl, rfl⟩ := HFA.out (by rw [HX.out, decide_eq_false (by omega : ¬ sz ≤ 4096)]; simp)
            clear HX HFA HG2 HN2 g1 g2
            go_wp2
            go_ret2
            exact ⟨rfl, HB1.out⟩
          · have q2 : decide (4096 < sz) = false := decide_eq_false g2
            have HG3 := hid (HG2.out (by rw [HX.out, decide_eq_true (by omega : 1 ≤ sz), decide_eq_true (by omega : sz ≤ 4096)]; rfl))
            have hwn : wrap64 (n + sz) = n + sz := IntWalk.wrap64_in _ (by omega)
            clear HX HFA HG2 g1 g2 hnb hkl
            go_wp2
            exact ⟨⟨k + 1, n + sz, HLT.out, by first | rw [hwn] | rfl | simp, by first | rw [hwk] | rfl | simp, HN2, HB1, HG3⟩, by rw [hwk]; have := HLT.out; simp [intOf]; omega⟩
    · have hke : k = l.length := by omega
      have hd : decide ((k : Int) < (l.length : Int)) = false := decide_eq_false (by omega)
      have hd2 : decide (k < l.length) = false := decide_eq_false hlt
      have HGA : Hid (∀ p ∈ l, pcOk p = true) := by have := HG.out; rw [hke, List.take_length] at this; exact this
      have HN2 : Hid (n = pcsN l) := by have := HN.out; rw [hke, List.take_length] at this; exact this
      by_cases h5 : 512 < l.length
      · have h5i : decide (512 < (l.length : Int)) = true := decide_eq_true (by omega)
        have h5j : decide (512 < l.length) = true := decide_eq_true h5
        obtain ⟨rfl, rfl⟩ := HLO.out h5
        clear HC HBAD HGO DG HL HG HN hke hlt hk HLO HGA HN2 h5
        go_wp2
        go_ret2
        exact ⟨rfl, HB.out⟩
      · have h5i : decide (512 < (l.length : Int)) = false := decide_eq_false (by omega)
        have h5j : decide (512 < l.length) = false := decide_eq_false h5
        obtain ⟨rfl, rfl⟩ := HGO.out (by omega) HGA.out
        clear HC HBAD HGO DG HL HG HN hke hlt hk HLO HGA h5
        go_wp2
        go_ret2
        rw [HN2.out]
        exact ⟨rfl, HB.out⟩
end Go.Proofs.Ytbiapepalkdkdaa
