/- A token is kept, old ones are forgotten: the document. -/
import Derived.Test.YtojiahdbgdgdcaaTkK
namespace Go.Proofs.Ytojiahdbgdgdcaa
open Go.RowKit Go.Maps
set_option linter.unusedVariables false
set_option linter.unusedSimpArgs false

/-- those ahead of a token -/
def fltH (t : ByteArray) (l : List Hd) : List Hd := l.filter (fun h => bb h.tk t)
theorem fltH_yes (t : ByteArray) (l : List Hd) (k : Nat) (hk : k < l.length) (h : bb l[k].tk t = true) : fltH t (l.take (k + 1)) = fltH t (l.take k) ++ [l[k]] := by
  unfold fltH
  rw [List.take_succ_eq_append_getElem hk, List.filter_append, List.filter_cons_of_pos (by exact h), List.filter_nil]
theorem fltH_no (t : ByteArray) (l : List Hd) (k : Nat) (hk : k < l.length) (h : bb l[k].tk t = false) : fltH t (l.take (k + 1)) = fltH t (l.take k) := by
  unfold fltH
  rw [List.take_succ_eq_append_getElem hk, List.filter_append, List.filter_cons_of_neg (by rw [h]; simp), List.filter_nil, List.append_nil]
theorem fltH_len (t : ByteArray) (l : List Hd) (k : Nat) : (fltH t (l.take k)).length ≤ l.length := by
  have h1 : (fltH t (l.take k)).length ≤ (l.take k).length := List.length_filter_le ..
  have h2 : (l.take k).length ≤ l.length := by rw [List.length_take]; omega
  omega
theorem fltH_take : ∀ {l : List Hd} {t : ByteArray}, l.Pairwise (fun a b => bb a.tk b.tk = true) → fltH t l = l.take (plH l t)
  | [], t, _ => by simp [fltH]
  | a :: r, t, h => by
    cases h with
    | cons h1 h2 =>
      cases ha : bb a.tk t with
      | true =>
        have e1 : fltH t (a :: r) = a :: fltH t r := by unfold fltH; rw [List.filter_cons_of_pos (by exact ha)]
        have e2 : plH (a :: r) t = plH r t + 1 := by unfold plH; rw [List.countP_cons_of_pos (p := fun h : Hd => bb h.tk t) (a := a) (l := r) ha]
        rw [e1, e2, List.take_succ_cons, fltH_take h2]
      | false =>
        have hn : ∀ b ∈ r, bb b.tk t = false := fun b hb => by
          cases hb2 : bb b.tk t with
          | false => rfl
          | true => rw [bb_trans (h1 b hb) hb2] at ha; cases ha
        have e1 : fltH t (a :: r) = [] := by
          unfold fltH
          rw [List.filter_eq_nil_iff]
          intro b hb
          rcases List.mem_cons.1 hb with e | e
          · rw [e, ha]; simp
          · rw [hn b e]; simp
        have e2 : plH (a :: r) t = 0 := by
          unfold plH
          rw [List.countP_eq_zero]
          intro b hb
          rcases List.mem_cons.1 hb with e | e
          · rw [e, ha]; simp
          · rw [hn b e]; simp
        rw [e1, e2, List.take_zero]
theorem hasH_no {l : List Hd} {t : ByteArray} (h : ∀ j (h : j < l.length), l[j].tk ≠ t) : hasH l t = false := by
  unfold hasH
  rw [List.any_eq_false]
  intro x hx
  obtain ⟨j, hj, rfl⟩ := List.getElem_of_mem hx
  simpa using h j hj
theorem hasH_yes {l : List Hd} {t : ByteArray} (j : Nat) (h : j < l.length) (e : l[j].tk = t) : hasH l t = true := by
  unfold hasH
  rw [List.any_eq_true]
  exact ⟨l[j], List.getElem_mem h, by simpa using e⟩
theorem own_drewN {w : World} {B e s n : Nat} {v : Value} {xs : List Value} (h : w.ownsRow B e s v n xs) (q : Nat) : (w.drewN q).ownsRow B e s v n xs := ((below_drew0 w q).keep (fun _ => False)).ownsRow h (fun _ _ h => h)
set_option maxRecDepth 100000 in
set_option maxHeartbeats 4000000 in
theorem rnote15_any (v : Value) (q : List Hd) (x : Hd) (w : World) (hv : HdI w v q) (hl : q.length ≤ 8796093022208) (hs : ∀ y ∈ q, y.tk.size ≤ 140737488355328 ∧ y.su.size ≤ 140737488355328) (hx1 : x.tk.size ≤ 140737488355328) (hx2 : x.su.size ≤ 140737488355328) : Calls Try.prog 13 #[v, hdV x] w (GiveH w 37 (noteL q x) (noteE q x)) := by
  obtain ⟨ad, cap, rfl, hc⟩ := hv.form
  have HCK : Hid (∀ (k : Nat) (hk : k < q.length), ∃ b off, ad = some ⟨b, off, none⟩ ∧ ∀ W, Below w.heap.size w W → W.cell? ⟨b, off + k * 4, none⟩ = some (.string q[k].tk) ∧ W.cell? ⟨b, off + k * 4 + 1, none⟩ = some (.string q[k].su) ∧ W.cell? ⟨b, off + k * 4 + 2, none⟩ = some (.string q[k].ou) ∧ W.cell? ⟨b, off + k * 4 + 3, none⟩ = some (.int .i64 q[k].at_)) := fun k hk => by
    obtain ⟨b, off, e, hb, c0, c1, c2, c3⟩ := hc k hk
    exact ⟨b, off, e, fun W hB => ⟨(hB.cell (p := ⟨b, off + k * 4, none⟩) hb).trans c0, (hB.cell (p := ⟨b, off + k * 4 + 1, none⟩) hb).trans c1, (hB.cell (p := ⟨b, off + k * 4 + 2, none⟩) hb).trans c2, (hB.cell (p := ⟨b, off + k * 4 + 3, none⟩) hb).trans c3⟩⟩
  have BM := hid (Bx.made (Below.refl w.heap.size w) [.string x.tk, .string x.su, .string x.ou, .int .i64 x.at_] 37)
  have IT := hid (may15_any _ q _ (hv.next BM.out.b) hl hs)
  have MB := hid (fun W => one15_any x W hx1 hx2)
  have HE : Hid (noteE q x = if isTb q = true ∧ hdOk x = true then (if hasH q x.tk = true then 71 else if q.length = 64 then 131 else 0) else 1) := rfl
  have HNL : Hid (noteL q x = if noteE q x = 0 then insH q x else []) := rfl
  have HLN : Hid (isTb q = true → q.length ≤ 64) := isTb_len
  have HYES : Hid (∀ (k : Nat) (hk : k < q.length), bb q[k].tk x.tk = true → fltH x.tk (q.take (k + 1)) = fltH x.tk (q.take k) ++ [q[k]]) := fun k hk h => fltH_yes x.tk q k hk h
  have HNO : Hid (∀ (k : Nat) (hk : k < q.length), bb q[k].tk x.tk = false → fltH x.tk (q.take (k + 1)) = fltH x.tk (q.take k)) := fun k hk h => fltH_no x.tk q k hk h
  have HFL : Hid (∀ k, (fltH x.tk (q.take k)).length ≤ q.length) := fun k => fltH_len x.tk q k
  have HHN : Hid ((∀ j (h : j < q.length), q[j].tk ≠ x.tk) → hasH q x.tk = false) := hasH_no
  have HHY : Hid (∀ j (h : j < q.length), q[j].tk = x.tk → hasH q x.tk = true) := fun j h e => hasH_yes j h e
  have HFT : Hid (isTb q = true → fltH x.tk (q.take q.length) = q.take (plH q x.tk)) := fun h => by rw [List.take_length]; exact fltH_take (isTb_rise h)
  have HPL := hid (plH_le q x.tk)
  obtain ⟨ad5, cap5, r5, s5⟩ := rowc_from elRH (show RowC w (.slice ad q.length cap) q.length (hqC q) from hv) (hqC_len q) (plH_le q x.tk)
  rw [hqC_dr q _ (plH_le q x.tk)] at r5
  have S5 := hid s5
  have R5 := hid r5
  have HIN : Hid (hqC (q.take (plH q x.tk)) ++ hdC x ++ hqC (q.drop (plH q x.tk)) = hqC (insH q x)) := by
    show _ = _
    unfold insH
    rw [hqC_app, show x :: q.drop (plH q x.tk) = [x] ++ q.drop (plH q x.tk) from rfl, hqC_app, hqC_one, List.append_assoc]
  have HIL := hid (insH_len q x)
  have HTL : Hid ((q.take (plH q x.tk)).length = plH q x.tk) := by show _ = _; rw [List.length_take, Nat.min_eq_left (plH_le q x.tk)]
  have HDL : Hid ((hqC (q.drop (plH q x.tk))).length = (q.length - plH q x.tk) * 4) := by show _ = _; rw [hqC_len, List.length_drop]
  have HD1 := hid (hqC_one' (q.drop (plH q x.tk)))
  have HXC := hid (hdC_one x)
  have HXL : Hid ((hdC x).length = 1 * 4) := rfl
  have HXS : Hid (hdC x = [.string x.tk, .string x.su, .string x.ou, .int .i64 x.at_]) := rfl
  have HCE : Hid (∀ W, Bx w w.heap.size [.string x.tk, .string x.su, .string x.ou, .int .i64 x.at_] 37 W → W.cell? ⟨w.heap.size, 0, none⟩ = some (.string x.tk) ∧ W.cell? ⟨w.heap.size, 1, none⟩ = some (.string x.su) ∧ W.cell? ⟨w.heap.size, 2, none⟩ = some (.string x.ou) ∧ W.cell? ⟨w.heap.size, 3, none⟩ = some (.int .i64 x.at_)) := fun W hW => ⟨hW.row.cellAt rfl, hW.row.cellAt rfl, hW.row.cellAt rfl, hW.row.cellAt rfl⟩
  clear hc hv hl hs hx1 hx2 s5 r5
  unfold hdV
  generalize noteE q x = NE at *
  generalize noteL q x = NL at *
  generalize insH q x = IH at *
  generalize isTb q = IS at *
  generalize hdOk x = OK at *
  generalize hasH q x.tk = HB at *
  generalize hqC (q.drop (plH q x.tk)) = QD at *
  generalize hqt : q.take (plH q x.tk) = QT at *
  clear hqt
  generalize plH q x.tk = PN at *
  generalize hdC x = XS at *
  obtain ⟨tk, su, ou, at_⟩ := x
  simp only at *
  go_enter Try.func13, Try.ntmps13
  go_wp2_with fail
  refine IT.out.mono ?_
  rintro e w1 ⟨rfl, b1⟩
  have B1 := hid (BM.out.next b1)
  clear IT b1 BM
  cases IS
  · have hne : NE = 1 := by rw [HE.out]; simp
    subst hne
    have hnl : NL = [] := by rw [HNL.out]; simp
    subst hnl
    clear MB HE HNL HLN HCK HYES HNO HFL HHN HHY HFT HPL S5 R5 HIN HIL HTL HDL HD1 HXC HXL HXS HCE
    go_wp2
    go_ret2
    exact giveH_none B1.out.b
  obtain ⟨y0, y1, y2, y3⟩ := HCE.out _ B1.out
  have HL := hid (HLN.out rfl)
  have HF2 := hid (HFT.out rfl)
  clear HLN HFT
  go_wp2_with fail
  refine (MB.out _).mono ?_
  rintro e w2 ⟨rfl, b2⟩
  have B2 := hid (B1.out.next b2)
  clear MB b2 B1 y0 y1 y2 y3
  cases OK
  · have hne : NE = 1 := by rw [HE.out]; simp
    subst hne
    have hnl : NL = [] := by rw [HNL.out]; simp
    subst hnl
    clear HE HNL HCK HYES HNO HFL HHN HHY HF2 HPL S5 R5 HIN HIL HTL HDL HD1 HXC HXL HXS HCE HL
    go_wp2
    go_ret2
    exact giveH_none B2.out.b
  have HE2 : Hid (NE = (if HB = true then 71 else if q.length = 64 then 131 else 0)) := by show _ = _; rw [HE.out]; simp
  clear HE
  have HR0 : Hid (w2.ownsRow (w.heap.size + 1) 37 4 (.slice none 0 0) (fltH tk (q.take 0)).length (hqC (fltH tk (q.take 0)))) := ⟨rfl, .inl ⟨rfl, rfl⟩⟩
  have HN0 : Hid (∀ j (h : j < q.length), j < 0 → q[j].tk ≠ tk) := fun j h hj => by omega
  go_wp2
  go_loopw [6, 7] (fun o i wr => ∃ (k : Nat) (ad1 : Option Addr) (cp1 : Nat), k ≤ q.length ∧ o = .slice ad1 (fltH tk (q.take k)).length cp1 ∧ i = .int .i64 (k : Int) ∧ Hid (wr.ownsRow (w.heap.size + 1) 37 4 (.slice ad1 (fltH tk (q.take k)).length cp1) (fltH tk (q.take k)).length (hqC (fltH tk (q.take k)))) ∧ Hid (Bx w w.heap.size [.string tk, .string su, .string ou, .int .i64 at_] 37 wr) ∧ Hid (∀ j (h : j < q.length), j < k → q[j].tk ≠ tk)) (fun _ i _ => q.length - (intOf i).toNat)
  case atStart => exact ⟨0, none, 0, Nat.zero_le _, rfl, rfl, HR0, B2, HN0⟩
  case round =>
    clear HR0 HN0 B2
    obtain ⟨k, ad1, cp1, hk, rfl, rfl, HR, HB1, HN⟩ := hrel
    by_cases hlt : k < q.length
    · have hk1 : (k : Int) < (q.length : Int) := by omega
      have hk0 : (0 : Int) ≤ (k : Int) := by omega
      have hwk : wrap64 ((k : Int) + 1) = ((k + 1 : Nat) : Int) := by have := HL.out; rw [IntWalk.wrap64_in _ (by omega)]; omega
      obtain ⟨b, off, rfl, hcc⟩ := HCK.out k hlt
      have HCC := hid hcc
      obtain ⟨d0, d1, d2, d3⟩ := hcc _ HB1.out.b
      obtain ⟨y0, y1, y2, y3⟩ := HCE.out _ HB1.out
      have HLT := hid hlt
      have HY1 := hid (HYES.out k hlt)
      have HN1 := hid (HNO.out k hlt)
      have HT1 := hid (HHY.out k hlt)
      have HNN : Hid (q[k].tk ≠ tk → ∀ j (h : j < q.length), j < k + 1 → q[j].tk ≠ tk) := fun h j hj hjk => by
        rcases Nat.lt_or_eq_of_le (Nat.le_of_lt_succ hjk) with h2 | h2
        · exact HN.out j hj h2
        · subst h2; exact h
      have HO1 := hid (hdC_one q[k])
      have HX2 : Hid ((hdC q[k]).length = 1 * 4) := rfl
      have HZS : Hid (hdC q[k] = [.string q[k].tk, .string q[k].su, .string q[k].ou, .int .i64 q[k].at_]) := rfl
      have HQ1 : Hid (hqC (fltH tk (q.take k) ++ [q[k]]) = hqC (fltH tk (q.take k)) ++ hdC q[k] ∧ (fltH tk (q.take k) ++ [q[k]]).length = (fltH tk (q.take k)).length + 1) := ⟨by rw [hqC_app, hqC_one], by simp⟩
      have HFk := hid (HFL.out k)
      have hkL : (k : Int) < 65 := by have := HL.out; omega
      clear HCK HYES HNO HFL HHN HHY HF2 HPL S5 R5 HIN HIL HTL HDL HD1 HXC HXL HXS hcc HN hk
      generalize q[k] = z at *
      obtain ⟨zt, zs, zo, za⟩ := z
      simp only at *
      generalize hdC _ = ZS at *
      clear hlt
      by_cases hi : zt = tk
      · have g1 : (zt.toList == tk.toList) = true := by rw [hi]; simp
        have hh : HB = true := HT1.out hi
        subst hh
        have hne : NE = 71 := by rw [HE2.out]; simp
        subst hne
        have hnl : NL = [] := by rw [HNL.out]; simp
        subst hnl
        have BDD : Hid (∀ n, Below w.heap.size w (wr.drewN n)) := fun n => below_drewN HB1.out.b n
        clear HNL HCE HL HE2 HCC HY1 HN1 HT1 HNN HO1 HX2 HZS HQ1 HFk HR HB1 hi
        go_wp2
        go_quiet (fail)
        go_wp2
        go_ret2
        exact giveH_none (BDD.out _)
      · have g1 : (zt.toList == tk.toList) = false := by rw [tl_eq, decide_eq_false hi]
        have HN2 := hid (HNN.out hi)
        clear HNN HT1 hi HE2 HNL
        cases hbb : bb zt tk
        · have g2 : Op.bytesLess zt.toList tk.toList = false := by rw [bb_less, hbb]
          have e1 := HN1.out hbb
          have HE1 := hid e1
          have BDD : Hid (∀ n m, Bx w w.heap.size [.string tk, .string su, .string ou, .int .i64 at_] 37 ((wr.drewN n).drewN m) ∧ ((wr.drewN n).drewN m).ownsRow (w.heap.size + 1) 37 4 (.slice ad1 (fltH tk (q.take (k + 1))).length cp1) (fltH tk (q.take (k + 1))).length (hqC (fltH tk (q.take (k + 1))))) := fun n m => ⟨(HB1.out.drewN n).drewN m, by rw [e1]; exact own_drewN (own_drewN HR.out n) m⟩
          have CELL : Hid (∀ n, ((wr.drewN n).cell? ⟨b, off + k * 4, none⟩ = some (.string zt)) ∧ ((wr.drewN n).cell? ⟨w.heap.size, 0, none⟩ = some (.string tk))) := fun n => ⟨(HCC.out _ (HB1.out.drewN n).b).1, (HCE.out _ (HB1.out.drewN n)).1⟩
          clear HCE HCC HY1 HN1 HO1 HX2 HZS HQ1 HFk HR HB1 hbb e1 HL
          go_wp2
          go_quiet (fail)
          obtain ⟨d0', y0'⟩ := CELL.out nq
          have BD2 := hid (fun m => BDD.out nq m)
          clear CELL BDD d0 d1 d2 d3 y0 y1 y2 y3
          generalize wr.drewN nq = wa at *
          clear nq
          go_wp2
          go_quiet (fail)
          obtain ⟨F1, F2⟩ := BD2.out nq
          have G1 := hid F1
          have G2 := hid F2
          clear BD2 d0' y0' F1 F2
          go_wp2
          exact ⟨⟨k + 1, ad1, cp1, HLT.out, by rw [HE1.out], by first | rw [hwk] | rfl | simp, G2, G1, HN2⟩, by (try rw [hwk]); have := HLT.out; simp [intOf]; omega⟩
        · have g2 : Op.bytesLess zt.toList tk.toList = true := by rw [bb_less, hbb]
          have e1 := HY1.out hbb
          have HE1 : Hid ((fltH tk (q.take (k + 1))).length = (fltH tk (q.take k)).length + 1) := by show _ = _; rw [e1]; exact HQ1.out.2
          have HE2 : Hid (hqC (fltH tk (q.take (k + 1))) = hqC (fltH tk (q.take k)) ++ ZS) := by show _ = _; rw [e1]; exact HQ1.out.1
          have HB3 : Hid ((fltH tk (q.take k)).length + 1 ≤ 4611686018427387904) := by have := HFk.out; have := HL.out; show _ ≤ _; omega
          have HB4 : Hid (((fltH tk (q.take k)).length + 1) * 56 ≤ 140737488355328) := by have := HFk.out; have := HL.out; show _ ≤ _; omega
          have BDD : Hid (∀ n m, Bx w w.heap.size [.string tk, .string su, .string ou, .int .i64 at_] 37 ((wr.drewN n).drewN m) ∧ ((wr.drewN n).drewN m).ownsRow (w.heap.size + 1) 37 4 (.slice ad1 (fltH tk (q.take k)).length cp1) (fltH tk (q.take k)).length (hqC (fltH tk (q.take k)))) := fun n m => ⟨(HB1.out.drewN n).drewN m, own_drewN (own_drewN HR.out n) m⟩
          have CELL : Hid (∀ n, ((wr.drewN n).cell? ⟨b, off + k * 4, none⟩ = some (.string zt)) ∧ ((wr.drewN n).cell? ⟨w.heap.size, 0, none⟩ = some (.string tk))) := fun n => ⟨(HCC.out _ (HB1.out.drewN n).b).1, (HCE.out _ (HB1.out.drewN n)).1⟩
          clear HCE HY1 HN1 HQ1 HFk HR HB1 hbb e1 HL
          go_wp2
          go_quiet (fail)
          obtain ⟨d0', y0'⟩ := CELL.out nq
          have BD2 := hid (fun m => BDD.out nq m)
          clear CELL BDD d0 d1 d2 d3 y0 y1 y2 y3
          generalize wr.drewN nq = wa at *
          clear nq
          go_wp2
          go_quiet (fail)
          obtain ⟨F1, F2⟩ := BD2.out nq
          have G1 := hid F1
          have G2 := hid F2
          clear BD2 d0' y0' F1 F2
          generalize wa.drewN nq = wb at *
          clear nq wa
          obtain ⟨d0, d1, d2, d3⟩ := HCC.out _ G1.out.b
          have BA := hid (G1.out.al (.cells #[.string zt, .string zs, .string zo, .int .i64 za] 37))
          have HGA : Hid ((wb.alloc (.cells #[.string zt, .string zs, .string zo, .int .i64 za] 37)).ownsRow (w.heap.size + 1) 37 4 (.slice ad1 (fltH tk (q.take k)).length cp1) (fltH tk (q.take k)).length (hqC (fltH tk (q.take k)))) := (keep_alloc (fun _ => False) _ _).ownsRow G2.out (fun _ _ h => h)
          have HGX : Hid (GSrc (wb.alloc (.cells #[.string zt, .string zs, .string zo, .int .i64 za] 37)) (.slice (some ⟨wb.heap.size, 0, none⟩) 1 1) 1 ZS) := by
            rw [HZS.out]; exact gsrc_block (heap_alloc_new _ _)
          have HSZ : Hid (w.heap.size + 1 ≤ (wb.alloc (.cells #[.string zt, .string zs, .string zo, .int .i64 za] 37)).heap.size) := BA.out.row.lt
          have FIN : Hid (∀ ad' cap' w', w'.ownsRow (w.heap.size + 1) 37 4 (.slice ad' ((fltH tk (q.take k)).length + 1) cap') ((fltH tk (q.take k)).length + 1) (hqC (fltH tk (q.take k)) ++ ZS) → Keep (fun j => (Value.slice ad1 (fltH tk (q.take k)).length cp1).ownBlock = some j) (wb.alloc (.cells #[.string zt, .string zs, .string zo, .int .i64 za] 37)) w' → Hid (w'.ownsRow (w.heap.size + 1) 37 4 (.slice ad' (fltH tk (q.take (k + 1))).length cap') (fltH tk (q.take (k + 1))).length (hqC (fltH tk (q.take (k + 1))))) ∧ Hid (Bx w w.heap.size [.string tk, .string su, .string ou, .int .i64 at_] 37 w')) := fun ad' cap' w' hr hk' => by
            have hge : ∀ g, (Value.slice ad1 (fltH tk (q.take k)).length cp1).ownBlock = some g → w.heap.size + 1 ≤ g := fun g e => ownsRow_ge G2.out e
            refine ⟨?_, ⟨BA.out.row.keep hk' (fun e => by have := hge _ e; omega), BA.out.b.trans (keep_below hk' (fun j hj e => by have := hge _ e; omega) BA.out.b.size)⟩⟩
            show World.ownsRow _ _ _ _ _ _ _
            rw [HE1.out, HE2.out]; exact hr
          clear G1 G2 BA HZS HE2 HCC
          generalize hqC (fltH tk (q.take k)) = PA at *
          generalize (fltH tk (q.take k)).length = n0 at *
          go_wp2_with (at_builtin; refine wpl_gappL rfl _ _ elRH rfl (w.heap.size + 1) (.slice ad1 n0 cp1) (.slice (some ⟨wb.heap.size, 0, none⟩) 1 1) PA ZS n0 1 (n0 + 1) rfl rfl rfl HGA.out HSZ.out HGX.out HX2.out HO1.out HB3.out HB4.out ?_; intro ad' cap' w' hr' hk')
          obtain ⟨F1, F2⟩ := FIN.out _ _ _ hr' hk'
          clear hr' hk' FIN HGA HGX HSZ d0 d1 d2 d3
          go_wp2
          exact ⟨⟨k + 1, _, _, HLT.out, by rw [HE1.out], by first | rw [hwk] | rfl | simp, F1, F2, HN2⟩, by (try rw [hwk]); have := HLT.out; simp [intOf]; omega⟩
    · have hke : k = q.length := by omega
      have hd : decide ((k : Int) < (q.length : Int)) = false := decide_eq_false (by omega)
      have hd2 : decide (k < q.length) = false := decide_eq_false hlt
      have hh : HB = false := HHN.out (fun j hj => HN.out j hj (by omega))
      subst hh
      have hfl : fltH tk (q.take k) = QT := by rw [hke]; exact HF2.out
      rw [hfl] at HR ⊢
      clear HN HHN HHY HYES HNO HFL hke HF2 hfl HCK hlt hk
      obtain ⟨y0, y1, y2, y3⟩ := HCE.out _ HB1.out
      by_cases h64 : q.length = 64
      · have hne : NE = 131 := by rw [HE2.out]; simp [h64]
        subst hne
        have hnl : NL = [] := by rw [HNL.out]; simp
        subst hnl
        have g1 : decide (64 ≤ (q.length : Int)) = true := decide_eq_true (by omega)
        have g2 : decide (64 ≤ q.length) = true := decide_eq_true (by omega)
        clear HNL S5 R5 HIN HIL HTL HDL HD1 HXC HXL HXS HCE HL HE2 h64 HR HPL
        go_wp2
        go_ret2
        exact giveH_none HB1.out.b
      · have hne : NE = 0 := by rw [HE2.out]; simp [h64]
        subst hne
        have hnl : NL = IH := by rw [HNL.out]; simp
        subst hnl
        have g1 : decide (64 ≤ (q.length : Int)) = false := decide_eq_false (by have := HL.out; omega)
        have g2 : decide (64 ≤ q.length) = false := decide_eq_false (by have := HL.out; omega)
        have s5 := S5.out
        have hqt := HTL.out
        rw [hqt] at HR ⊢
        have BA := hid (HB1.out.al (.cells #[.string tk, .string su, .string ou, .int .i64 at_] 37))
        have HGA : Hid ((wr.alloc (.cells #[.string tk, .string su, .string ou, .int .i64 at_] 37)).ownsRow (w.heap.size + 1) 37 4 (.slice ad1 PN cp1) PN (hqC QT)) := (keep_alloc (fun _ => False) _ _).ownsRow HR.out (fun _ _ h => h)
        have HGX : Hid (GSrc (wr.alloc (.cells #[.string tk, .string su, .string ou, .int .i64 at_] 37)) (.slice (some ⟨wr.heap.size, 0, none⟩) 1 1) 1 XS) := by
          rw [HXS.out]; exact gsrc_block (heap_alloc_new _ _)
        have HSZ : Hid (w.heap.size + 1 ≤ (wr.alloc (.cells #[.string tk, .string su, .string ou, .int .i64 at_] 37)).heap.size) := BA.out.row.lt
        have HB3 : Hid (PN + 1 ≤ 4611686018427387904) := by have := HPL.out; have := HL.out; show _ ≤ _; omega
        have HB4 : Hid ((PN + 1) * 56 ≤ 140737488355328) := by have := HPL.out; have := HL.out; show _ ≤ _; omega
        have HB5 : Hid (q.length + 1 ≤ 4611686018427387904) := by have := HL.out; show _ ≤ _; omega
        have HB6 : Hid ((q.length + 1) * 56 ≤ 140737488355328) := by have := HL.out; show _ ≤ _; omega
        have HNM : Hid (PN + 1 + (q.length - PN) = q.length + 1) := by have := HPL.out; show _ = _; omega
        have FIN : Hid (∀ ad' cap' w', w'.ownsRow (w.heap.size + 1) 37 4 (.slice ad' (PN + 1) cap') (PN + 1) (hqC QT ++ XS) → Keep (fun j => (Value.slice ad1 PN cp1).ownBlock = some j) (wr.alloc (.cells #[.string tk, .string su, .string ou, .int .i64 at_] 37)) w' → Hid (Below w.heap.size w w')) := fun ad' cap' w' hr hk' => by
          have hge : ∀ g, (Value.slice ad1 PN cp1).ownBlock = some g → w.heap.size + 1 ≤ g := fun g e => ownsRow_ge HR.out e
          exact BA.out.b.trans (keep_below hk' (fun j hj e => by have := hge _ e; omega) BA.out.b.size)
        clear HNL S5 HTL HCE HE2 h64 HPL HR HB1 BA HXS hqt HL
        generalize hqC QT = PA at *
        go_wp2_with (at_builtin; first | (refine wpl_gappR rfl _ _ elRH rfl (w.heap.size + 1) (.slice ad2 (PN + 1) cp2) (.slice ad5 (q.length - PN) cap5) (PA ++ XS) QD (PN + 1) (q.length - PN) (q.length + 1) HNM.out rfl rfl O2.out SZ2.out (R5.out.next B2.out) HDL.out HD1.out HB5.out HB6.out ?_; intro ad3 cp3 w3 hr3 hk3) | (refine wpl_gappL rfl _ _ elRH rfl (w.heap.size + 1) (.slice ad1 PN cp1) (.slice (some ⟨wr.heap.size, 0, none⟩) 1 1) PA XS PN 1 (PN + 1) rfl rfl rfl HGA.out HSZ.out HGX.out HXL.out HXC.out HB3.out HB4.out ?_; intro ad2 cp2 w2 hr2 hk2; have B2 := FIN.out _ _ _ hr2 hk2; have O2 := hid hr2; have SZ2 := hid (Nat.le_trans HSZ.out hk2.size); clear hr2 hk2 FIN HGA HGX HSZ))
        have B3 : Hid (Below w.heap.size w w3) := B2.out.trans (keep_below hk3 (fun j hj e => by have := ownsRow_ge O2.out e; omega) B2.out.size)
        have O3 : Hid (OwnH w3 w.heap.size 37 (.slice ad3 (q.length + 1) cp3) NL) := by
          have := ownsRow_base hr3 (Nat.le_succ w.heap.size)
          rw [HIN.out] at this
          show World.ownsRow _ _ _ _ _ _ _
          rw [HIL.out]
          exact this
        clear hr3 hk3 O2 SZ2 B2 R5 HIN s5 y0 y1 y2 y3
        go_wp2
        go_ret2
        refine ⟨ad3, cp3, ?_, ?_, B3.out⟩
        · rw [HIL.out]; rfl
        · rw [HIL.out]; exact O3.out
end Go.Proofs.Ytojiahdbgdgdcaa
