/- Join's small functions: rise, hasSmall, isLong. -/
import Derived.Test.YtbiapepalkdkdabJoined08
import Derived.Test.YtbiapepalkdkdabJoined07
import Derived.Test.YtbiapepalkdkdabJoined03
import Derived.BigQuiet
import Derived.Deep.QuietTactic
namespace Go.Proofs.Ytbiapepalkdkdab
open Go.RowKit Go.Maps
set_option linter.unusedVariables false
set_option linter.unusedSimpArgs false

theorem kp_bad {ks : List Pk} {R : Bool} {k : Nat} (hk : k < ks.length) (hR : R = kpF (prevK ks k) (ks.drop k)) (h : ptAbove (prevK ks k) ks[k].n = false) : R = false := by
  rw [hR, kpF_at ks k hk, h]; rfl
theorem kp_go {ks : List Pk} {R : Bool} {k : Nat} (hk : k < ks.length) (hR : R = kpF (prevK ks k) (ks.drop k)) (h : ptAbove (prevK ks k) ks[k].n = true) : R = kpF (prevK ks (k + 1)) (ks.drop (k + 1)) := by
  rw [hR, kpF_at ks k hk, h]; rfl
set_option maxRecDepth 100000 in
set_option maxHeartbeats 2000000 in
theorem prise_any (v : Value) (ks : List Pk) (w : World) (hv : PkI w v ks) (hl : ks.length ≤ 8796093022208) : Calls Try.prog 42 #[v] w fun e w' => e = .returned (.bool (riseK ks)) ∧ Below w.heap.size w w' := by
  obtain ⟨ad, cap, rfl, hc⟩ := hv.form
  have HL := hid hl
  have HR0 : Hid (riseK ks = kpF (prevK ks 0) (ks.drop 0)) := by show _ = _; simp [prevK, riseK]
  have HC := hid hc
  generalize riseK ks = R at *
  clear hc hv hl
  go_enter Try.func42, Try.ntmps42
  go_wp2
  go_loopw [7] (fun i wr => ∃ (k : Nat), k ≤ ks.length ∧ i = .int .i64 (k : Int) ∧ Hid (Below w.heap.size w wr) ∧ Hid (R = kpF (prevK ks k) (ks.drop k))) (fun i _ => ks.length - (intOf i).toNat)
  case atStart => exact ⟨0, Nat.zero_le _, rfl, Below.refl _ _, HR0⟩
  case round =>
    clear HR0
    obtain ⟨k, hk, rfl, HB, HR⟩ := hrel
    by_cases hlt : k < ks.length
    · have hk1 : (k : Int) < (ks.length : Int) := by omega
      have hk0 : (0 : Int) ≤ (k : Int) := by omega
      have hwk : wrap64 ((k : Int) + 1) = ((k + 1 : Nat) : Int) := by have := HL.out; rw [IntWalk.wrap64_in _ (by omega)]; omega
      obtain ⟨b, off, rfl, hb, c0, c1⟩ := HC.out k hlt
      have d0 := (HB.out.cell (p := ⟨b, off + k * 2, none⟩) hb).trans c0
      have d1 := (HB.out.cell (p := ⟨b, off + k * 2 + 1, none⟩) hb).trans c1
      have HBAD := hid (kp_bad hlt HR.out)
      have HGO := hid (kp_go hlt HR.out)
      have HPV : Hid (k = 0 ∧ prevK ks k = none ∨ ∃ (m : Nat) (pi : Int), k = m + 1 ∧ prevK ks k = some pi ∧ ∀ W, Below w.heap.size w W → W.cell? ⟨b, off + m * 2, none⟩ = some (.int .i64 pi)) := by
        cases k with
        | zero => exact .inl ⟨rfl, rfl⟩
        | succ m =>
          obtain ⟨b', off', e, hb', c0', _⟩ := HC.out m (by omega)
          injection e with e
          injection e with e1 e2
          subst e1 e2
          exact .inr ⟨m, _, rfl, prevK_succ ks m (by omega), fun W hW => (hW.cell (p := ⟨b, off + m * 2, none⟩) hb').trans c0'⟩
      have BM := hid (Bx.made HB.out [.int .i64 ks[k].n, .string ks[k].su] 67)
      have HLT := hid hlt
      have hkL : (k : Int) < 8796093022208 := by have := HL.out; omega
      clear HC HR c0 c1 HL hb HB
      generalize ks[k] = y at *
      obtain ⟨n, su⟩ := y
      simp only at *
      generalize prevK ks k = PV at *
      have y0 := BM.out.row.cellAt (o := 0) rfl
      have y1 := BM.out.row.cellAt (o := 1) rfl
      rcases HPV.out with ⟨hz, rfl⟩ | ⟨m, pi, hz, rfl, hpi⟩
      · have HG := hid (HGO.out rfl)
        have g1 : decide (0 < (k : Int)) = false := decide_eq_false (by omega)
        have g2 : decide (0 < k) = false := decide_eq_false (by omega)
        clear HBAD HGO HPV hk hlt hz hkL
        go_wp2
        go_quiet (fail)
        have BR2 := hid (BM.out.drewN nq)
        clear BM d0 d1 y0 y1
        go_wp2
        exact ⟨⟨k + 1, HLT.out, by first | rw [hwk] | rfl | simp, BR2.out.b, HG⟩, by (try rw [hwk]); have := HLT.out; simp [intOf]; omega⟩
      · have g1 : decide (0 < (k : Int)) = true := decide_eq_true (by omega)
        have g2 : decide (0 < k) = true := decide_eq_true (by omega)
        have hw1 : wrap64 ((k : Int) - 1) = (m : Int) := by rw [IntWalk.wrap64_in _ (by omega)]; omega
        have hw2 : IntKind.i64.wrap ((k : Int) - 1) = (m : Int) := by rw [IntKind.wrap_i64]; omega
        have hm0 : (0 : Int) ≤ (m : Int) := by omega
        have hm1 : (m : Int) < (ks.length : Int) := by omega
        have HPI := hid hpi
        have yp := HPI.out _ BM.out.b
        by_cases hge : n ≤ pi
        · have g3 : decide (n ≤ pi) = true := decide_eq_true hge
          have hr := HBAD.out (show decide (pi < n) = false from decide_eq_false (by omega))
          subst hr
          clear HBAD HGO HPV hk hlt hz hpi hge hkL
          go_wp2
          go_quiet (fail)
          have BR2 := hid (BM.out.drewN nq)
          clear BM d0 d1 y0 y1 yp
          go_wp2
          go_ret
          exact ⟨rfl, BR2.out.b⟩
        · have g3 : decide (n ≤ pi) = false := decide_eq_false hge
          have HG := hid (HGO.out (show decide (pi < n) = true from decide_eq_true (by omega)))
          clear HBAD HGO HPV hk hlt hz hpi hge hkL
          go_wp2
          go_quiet (fail)
          have BR2 := hid (BM.out.drewN nq)
          clear BM d0 d1 y0 y1 yp
          go_wp2
          exact ⟨⟨k + 1, HLT.out, by first | rw [hwk] | rfl | simp, BR2.out.b, HG⟩, by (try rw [hwk]); have := HLT.out; simp [intOf]; omega⟩
    · have hke : k = ks.length := by omega
      have hd : decide ((k : Int) < (ks.length : Int)) = false := decide_eq_false (by omega)
      have hd2 : decide (k < ks.length) = false := decide_eq_false hlt
      have hr : R = true := by rw [HR.out, hke, List.drop_length]; rfl
      subst hr
      clear HC HR HL hke hlt hk
      go_wp2
      go_ret
      exact ⟨rfl, HB.out⟩
set_option maxRecDepth 100000 in
set_option maxHeartbeats 2000000 in
/-- hasSmall's own closure -/
theorem small1_any (pv : Value) (x : Pt) (w : World) (ad : Option Addr) (n cap : Nat) (hp : pv = .slice ad n cap) : Calls Try.prog 76 #[ptV (pv, x)] w fun e w' => e = .returned (.bool (decide (x.sz < 64))) ∧ Below w.heap.size w w' := by
  subst hp
  have BM := hid (Bx.made (Below.refl w.heap.size w) [.int .i64 x.n, .int .i64 x.sz, .string x.sum, .slice ad n cap] 25)
  have y1 := BM.out.row.cellAt (o := 1) rfl
  unfold ptV
  obtain ⟨a, sz, sum, ps⟩ := x
  simp only at *
  go_enter Try.func76, Try.ntmps76
  go_wp2
  go_ret
  exact ⟨rfl, BM.out.b⟩
theorem smT_at (l : List Pt) (k : Nat) (hk : k < l.length) : smT (l.drop k) = (decide (l[k].sz < 64) || smT (l.drop (k + 1))) := by
  rw [List.drop_eq_getElem_cons hk]; rfl
set_option maxRecDepth 100000 in
set_option maxHeartbeats 2000000 in
theorem tindex_any (v : Value) (q : List (Value × Pt)) (w : World) (hv : PtI w v q) (hl : q.length ≤ 8796093022208) : Calls Try.prog 94 #[v, .func (.func 76) #[] #[]] w fun e w' => ∃ j : Int, e = .returned (.int .i64 j) ∧ decide (0 ≤ j) = smT (tqL q) ∧ Below w.heap.size w w' := by
  obtain ⟨ad, cap, rfl, hc⟩ := hv.form
  have HL := hid hl
  have HR0 : Hid (smT (tqL q) = smT ((tqL q).drop 0)) := rfl
  have HC := hid hc
  have HST : Hid (∀ (k : Nat) (hk : k < q.length), smT ((tqL q).drop k) = (decide (q[k].2.sz < 64) || smT ((tqL q).drop (k + 1)))) := fun k hk => by
    have := smT_at (tqL q) k (by rw [tqL_len]; exact hk)
    rw [tqL_get q k hk] at this
    exact this
  have HZ : Hid (smT ((tqL q).drop q.length) = false) := by show _ = _; rw [← tqL_len, List.drop_length]; rfl
  have CK0 := hid (fun pv x W ad n cap h => small1_any pv x W ad n cap h)
  generalize smT (tqL q) = R at *
  clear hc hv hl
  go_enter Try.func94, Try.ntmps94
  go_wp2
  go_loopw [8] (fun i wr => ∃ (k : Nat), k ≤ q.length ∧ i = .int .i64 (k : Int) ∧ Hid (Below w.heap.size w wr) ∧ Hid (R = smT ((tqL q).drop k))) (fun i _ => q.length - (intOf i).toNat)
  case atStart => exact ⟨0, Nat.zero_le _, rfl, Below.refl _ _, HR0⟩
  case round =>
    clear HR0
    obtain ⟨k, hk, rfl, HB, HR⟩ := hrel
    by_cases hlt : k < q.length
    · have hk1 : (k : Int) < (q.length : Int) := by omega
      have hk0 : (0 : Int) ≤ (k : Int) := by omega
      have hwk : wrap64 ((k : Int) + 1) = ((k + 1 : Nat) : Int) := by have := HL.out; rw [IntWalk.wrap64_in _ (by omega)]; omega
      obtain ⟨b, off, rfl, hb, c0, c1, c2, c3, hp⟩ := HC.out k hlt
      have d0 := (HB.out.cell (p := ⟨b, off + k * 4, none⟩) hb).trans c0
      have d1 := (HB.out.cell (p := ⟨b, off + k * 4 + 1, none⟩) hb).trans c1
      have d2 := (HB.out.cell (p := ⟨b, off + k * 4 + 2, none⟩) hb).trans c2
      have d3 := (HB.out.cell (p := ⟨b, off + k * 4 + 3, none⟩) hb).trans c3
      have HS := hid (HST.out k hlt)
      have HLT := hid hlt
      have hpf := hp.sl
      clear HC c0 c1 c2 c3 hp HL hb HST HZ
      generalize q[k] = y at *
      obtain ⟨pv, id, sz, sum, ps⟩ := y
      simp only at *
      obtain ⟨ad2, cap2, rfl⟩ := hpf
      generalize ps.length = pn at *
      have CK := hid (fun W => CK0.out (.slice ad2 pn cap2) ⟨id, sz, sum, ps⟩ W ad2 pn cap2 rfl)
      unfold ptV at CK
      simp only at CK
      clear CK0
      by_cases hs : sz < 64
      · have g1 : decide (sz < 64) = true := decide_eq_true hs
        have hr : R = true := by rw [HR.out, HS.out, g1]; rfl
        subst hr
        rw [g1] at CK
        clear HS HR hk hlt hs
        go_wp2_with fail
        refine (CK.out _).mono ?_
        rintro e w1 ⟨rfl, b1⟩
        have B1 := hid (below_on HB.out b1)
        clear CK b1 d0 d1 d2 d3
        go_wp2
        go_ret
        exact ⟨_, rfl, decide_eq_true (by omega), B1.out⟩
      · have g1 : decide (sz < 64) = false := decide_eq_false hs
        have HG : Hid (R = smT ((tqL q).drop (k + 1))) := by show _ = _; rw [HR.out, HS.out, g1]; rfl
        rw [g1] at CK
        clear HS HR hk hlt hs
        go_wp2_with fail
        refine (CK.out _).mono ?_
        rintro e w1 ⟨rfl, b1⟩
        have B1 := hid (below_on HB.out b1)
        clear CK b1 d0 d1 d2 d3 HB
        go_wp2
        exact ⟨⟨k + 1, HLT.out, by first | rw [hwk] | rfl | simp, B1, HG⟩, by (try rw [hwk]); have := HLT.out; simp [intOf]; omega⟩
    · have hke : k = q.length := by omega
      have hd : decide ((k : Int) < (q.length : Int)) = false := decide_eq_false (by omega)
      have hd2 : decide (k < q.length) = false := decide_eq_false hlt
      have HF : Hid (R = false) := by show _ = _; rw [HR.out, hke, HZ.out]
      clear HC HR HL hke hlt hk HST HZ CK0
      go_wp2
      go_ret
      exact ⟨_, rfl, by rw [HF.out]; rfl, HB.out⟩
set_option maxRecDepth 100000 in
set_option maxHeartbeats 2000000 in
theorem hasSmall_any (v : Value) (q : List (Value × Pt)) (w : World) (hv : PtI w v q) (hl : q.length ≤ 8796093022208) : Calls Try.prog 44 #[v] w fun e w' => e = .returned (.bool (smT (tqL q))) ∧ Below w.heap.size w w' := by
  have CF : Hid (∀ W, Below w.heap.size w W → Calls Try.prog 75 #[v, .func (.func 76) #[] #[]] W fun e w' => e = .returned (.bool (smT (tqL q))) ∧ Below W.heap.size W w') := fun W hW => by
    obtain ⟨ad, cap, rfl, hc⟩ := hv.form
    have IX := hid (tindex_any _ q W (hv.next hW) hl)
    generalize smT (tqL q) = R at *
    clear hc hv hl hW
    go_enter Try.func75, Try.ntmps75
    go_wp2_with fail
    refine IX.out.mono ?_
    rintro e w1 ⟨j, rfl, hj, b1⟩
    have B1 := hid b1
    subst hj
    clear IX b1
    go_wp2
    go_ret
    exact ⟨rfl, B1.out⟩
  have C0 := hid (CF.out w (Below.refl _ _))
  obtain ⟨ad, cap, rfl, hc⟩ := hv.form
  generalize smT (tqL q) = R at *
  clear hc hv hl CF
  go_enter Try.func44, Try.ntmps44
  go_wp2_with fail
  refine C0.out.mono ?_
  rintro e w1 ⟨rfl, b1⟩
  have B1 := hid b1
  clear C0 b1
  go_wp2
  go_ret
  exact ⟨rfl, B1.out⟩
set_option maxRecDepth 100000 in
set_option maxHeartbeats 2000000 in
theorem isLong_any (v : Value) (q : List (Value × Pt)) (w : World) (hv : PtI w v q) (hl : q.length ≤ 100) (hk : ∀ y ∈ q, ptOk y.2 = true) : Calls Try.prog 45 #[v] w fun e w' => e = .returned (.bool (loT (tqL q))) ∧ Below w.heap.size w w' := by
  obtain ⟨ad, cap, rfl, hc⟩ := hv.form
  have HL := hid hl
  have HC := hid hc
  have HTK : Hid (∀ (k : Nat) (hk : k < q.length), szT ((tqL q).take (k + 1)) = szT ((tqL q).take k) + q[k].2.sz ∧ (psT ((tqL q).take (k + 1))).length = (psT ((tqL q).take k)).length + q[k].2.ps.length) := fun k hk => by
    rw [tk_app (tqL q) k (by rw [tqL_len]; exact hk), tqL_get q k hk, szT_app, psT_app, szT_one, psT_one, List.length_append]
    exact ⟨rfl, rfl⟩
  have HOK : Hid (∀ k, ∀ x ∈ (tqL q).take k, ptOk x = true) := fun k x hx => by
    obtain ⟨y, hy, rfl⟩ := List.mem_map.1 (List.mem_of_mem_take hx)
    exact hk y hy
  have HBD : Hid (∀ k, 0 ≤ szT ((tqL q).take k) ∧ szT ((tqL q).take k) ≤ 209715200 ∧ (psT ((tqL q).take k)).length ≤ 51200) := fun k => by
    have h1 := szT_bd (HOK.out k)
    have h2 := psT_bd (HOK.out k)
    have h3 : ((tqL q).take k).length ≤ 100 := by rw [List.length_take, tqL_len]; omega
    exact ⟨h1.1, by omega, by omega⟩
  have HLO : Hid (loT (tqL q) = (decide (1048576 < szT ((tqL q).take q.length)) || decide (512 < (psT ((tqL q).take q.length)).length))) := by show _ = _; rw [← tqL_len, List.take_length]; rfl
  generalize loT (tqL q) = R at *
  clear hc hv hl hk HOK
  go_enter Try.func45, Try.ntmps45
  go_wp2
  go_loopw [3, 4, 9] (fun a c i wr => ∃ (k : Nat) (sa : Int) (pa : Nat), k ≤ q.length ∧ a = .int .i64 sa ∧ c = .int .i64 (pa : Int) ∧ i = .int .i64 (k : Int) ∧ Hid (sa = szT ((tqL q).take k) ∧ pa = (psT ((tqL q).take k)).length) ∧ Hid (Below w.heap.size w wr)) (fun _ _ i _ => q.length - (intOf i).toNat)
  case atStart => exact ⟨0, 0, 0, Nat.zero_le _, rfl, rfl, rfl, ⟨by simp [szT], by simp [psT]⟩, Below.refl _ _⟩
  case round =>
    obtain ⟨k, sa, pa, hk, rfl, rfl, rfl, HR, HB⟩ := hrel
    by_cases hlt : k < q.length
    · have hk1 : (k : Int) < (q.length : Int) := by omega
      have hk0 : (0 : Int) ≤ (k : Int) := by omega
      have hwk : wrap64 ((k : Int) + 1) = ((k + 1 : Nat) : Int) := by have := HL.out; rw [IntWalk.wrap64_in _ (by omega)]; omega
      obtain ⟨b, off, rfl, hb, c0, c1, c2, c3, hp⟩ := HC.out k hlt
      have d0 := (HB.out.cell (p := ⟨b, off + k * 4, none⟩) hb).trans c0
      have d1 := (HB.out.cell (p := ⟨b, off + k * 4 + 1, none⟩) hb).trans c1
      have d2 := (HB.out.cell (p := ⟨b, off + k * 4 + 2, none⟩) hb).trans c2
      have d3 := (HB.out.cell (p := ⟨b, off + k * 4 + 3, none⟩) hb).trans c3
      have hw1 : wrap64 (sa + q[k].2.sz) = szT ((tqL q).take (k + 1)) := by
        have h1 := HBD.out (k + 1)
        have h2 := (HTK.out k hlt).1
        rw [HR.out.1, ← h2, IntWalk.wrap64_in _ (by omega)]
      have hw2 : wrap64 ((pa : Int) + (q[k].2.ps.length : Int)) = (((psT ((tqL q).take (k + 1))).length : Nat) : Int) := by
        have h1 := HBD.out (k + 1)
        have h2 := (HTK.out k hlt).2
        rw [HR.out.2, h2, IntWalk.wrap64_in _ (by omega)]
        omega
      have HLT := hid hlt
      have hpf := hp.sl
      have BM := hid (Bx.made HB.out [.int .i64 q[k].2.n, .int .i64 q[k].2.sz, .string q[k].2.sum, q[k].1] 25)
      clear HC c0 c1 c2 c3 hp HL hb HTK HLO HBD HR HB
      generalize q[k] = y at *
      clear hk hlt
      obtain ⟨pv, id, sz, sum, ps⟩ := y
      simp only at *
      obtain ⟨ad2, cap2, rfl⟩ := hpf
      generalize ps.length = pn at *
      generalize hG1 : szT ((tqL q).take (k + 1)) = S1 at *
      generalize hG2 : (psT ((tqL q).take (k + 1))).length = P1 at *
      have HG1 := hid hG1
      have HG2 := hid hG2
      clear hG1 hG2
      have y1 := BM.out.row.cellAt (o := 1) rfl
      have y3 := BM.out.row.cellAt (o := 3) rfl
      go_wp2
      exact ⟨⟨k + 1, S1, P1, HLT.out, by first | rw [hw1] | rfl | simp, by first | rw [hw2] | rfl | simp, by first | rw [hwk] | rfl | simp, ⟨HG1.out.symm, HG2.out.symm⟩, BM.out.b⟩, by (try rw [hwk]); have := HLT.out; simp [intOf]; omega⟩
    · have hke : k = q.length := by omega
      have hd : decide ((k : Int) < (q.length : Int)) = false := decide_eq_false (by omega)
      have hd2 : decide (k < q.length) = false := decide_eq_false hlt
      have hr : R = (decide (1048576 < sa) || decide (512 < pa)) := by rw [HLO.out, HR.out.1, HR.out.2, hke]
      have HRR := hid hr
      clear HC HR HL hke hlt hk HTK HLO HBD hr
      by_cases h1 : 1048576 < sa
      · have g1 : decide (1048576 < sa) = true := decide_eq_true h1
        have hr : R = true := by rw [HRR.out, g1]; rfl
        subst hr
        clear HRR h1
        go_wp2
        go_ret
        exact ⟨rfl, HB.out⟩
      · have g1 : decide (1048576 < sa) = false := decide_eq_false h1
        have hr : R = decide (512 < pa) := by rw [HRR.out, g1]; rfl
        subst hr
        clear HRR h1
        go_wp2
        go_ret
        exact ⟨by simp [Int.ofNat_lt]; omega, HB.out⟩
end Go.Proofs.Ytbiapepalkdkdab
