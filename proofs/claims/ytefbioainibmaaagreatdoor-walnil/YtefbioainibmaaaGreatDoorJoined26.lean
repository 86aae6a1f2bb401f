/- Joined: A new segment behind a log's others. Files made what was found, as plain data; how calls of the disk's alone go one behind the other. Files made what was found. A log's files made right; a log opened. A log opened. -/
import Derived.Test.YtefbioainibmaaaGreatDoorJoined25
import Derived.Test.YtefbioainibmaaaGreatDoorJoined20
namespace Go.Proofs.YtefbioainibmaaaGreatDoor
open Go.RowKit Go.Maps
set_option linter.unusedVariables false
set_option linter.unusedSimpArgs false

section
variable {w W W' : World} {c c1 : Nat → Nat} {B L p bx : Nat} {d d' : Ds} {tm vt : Int} {lost : Bool} {v : Value} {l : List Sv} {x : Sv}
theorem FlS.fresh (h : FlS w c p d B L tm vt lost v l bx x c1 W) (b : Below W.heap.size W W') : ∃ c3, FlS w c p d B L tm vt lost v l bx x c3 W' ∧ ∀ j, W.heap.size ≤ j → c3 j = 8 := by
  have k := b.keep (fun _ => False)
  obtain ⟨c3, h1, h2, h3⟩ := h.g.fresh k
  exact ⟨c3, ⟨h1, h.s.trans h2, h.b.keep k (fun h => h), h.xi.next b, (h2.co bx h.b.lt).trans h.cb, fun j hj => (h2.co j (h.xi.lt hj)).trans (h.cx j hj)⟩, h3⟩
theorem FlS.snoc {u : World} {c3 : Nat → Nat} (h : FlS w c p d B L tm vt lost v l bx x c3 u) (hn : ∀ j, u.heap.size ≤ j → c3 j = 8) (hap : ∀ a ∈ l, (∀ g, a.ve.ownBlock = some g → ¬ x.ve.ownBlock = some g) ∧ ∀ g, a.vp.ownBlock = some g → ¬ x.vp.ownBlock = some g) (hvb : ∀ j, v.ownBlock = some j → ¬ j = bx) (N N1 : Nat) (hN : l.length = N) (hN1 : N + 1 = N1) :
    ∀ (sa' : Option Addr) (sc' : Nat) (w9 : World), w9.ownsRow B 126 5 (.slice sa' N1 sc') N1 (svsC l ++ svC x) → ((Keep (fun _ => False) (u.alloc (.cells (svC x).toArray 126)) w9 ∧ ∀ g, (Value.slice sa' N1 sc').ownBlock = some g → (u.alloc (.cells (svC x).toArray 126)).heap.size ≤ g) ∨ (v = .slice sa' N sc' ∧ Keep (fun k => v.ownBlock = some k) (u.alloc (.cells (svC x).toArray 126)) w9)) →
      RowIs w9 bx (svC x) 126 ∧ (w9.cell? ⟨L, 3, none⟩ = some v ∧ w9.frozen? ⟨L, 3, none⟩ = false) ∧ RowIs (w9.setCell ⟨L, 3, none⟩ (.slice sa' N1 sc')) bx (svC x) 126 ∧ LgD (w9.setCell ⟨L, 3, none⟩ (.slice sa' N1 sc')) c3 p d B L tm vt lost (.slice sa' N1 sc') (l ++ [x]) ∧ Stp w c (w9.setCell ⟨L, 3, none⟩ (.slice sa' N1 sc')) c3 := by
  subst hN hN1
  intro sa' sc' w9 ho hk9
  have B1 : Below u.heap.size u (u.alloc (.cells (svC x).toArray 126)) := below_al (Below.refl _ _) _
  have h1 := h.next B1
  obtain ⟨k9, hw9⟩ := keepP hk9
  have hL := h.g.lg.lg.bx.lt
  have r9 := h1.b.keep k9 (fun e => hvb _ e rfl)
  have b9 := h1.g.lg.lg.bx.keep k9 (h1.g.lg.lg.sg.row.ne_row h1.g.lg.lg.bx (by decide))
  have s9 := h1.g.lg.lg.sg.snoc x h1.xi (fun a ha => (hap a ha).1) (fun a ha => (hap a ha).2) ho k9
  have kS := keep_setCell w9 L 3 (.slice sa' (l.length + 1) sc')
  have s10 : SgsI (w9.setCell ⟨L, 3, none⟩ (.slice sa' (l.length + 1) sc')) B (.slice sa' (l.length + 1) sc') (l ++ [x]) := s9.keep kS (s9.row.not_row b9 (by decide)) (fun y hy g hg => by
    rcases hg with hg | hg
    · exact (s9.sg y hy).oe.not_row b9 (by decide) g hg
    · exact (s9.sg y hy).oi.not_row b9 (by decide) g hg)
  have kk : Keep (fun j => c3 j = 8) (u.alloc (.cells (svC x).toArray 126)) (w9.setCell ⟨L, 3, none⟩ (.slice sa' (l.length + 1) sc')) := (k9.mono (fun j _ e => h1.g.cv j e)).then kS (fun j _ e => by rw [e]; exact h1.g.cL)
  have hbL : ¬ bx = L := fun e => by subst e; exact absurd (rows_ty h.b h.g.lg.lg.bx) (by decide)
  obtain ⟨g2, t2⟩ := h1.g.own kk ⟨b9.set 3 _, s10⟩ (fun g hg => by
    rcases hw9 g hg with e | e
    · exact h1.g.cv g e
    · exact hn g (Nat.le_trans B1.size e)) (fun y hy g hg => by
    rcases List.mem_append.1 hy with hy | hy
    · exact h1.g.cs y hy g hg
    · rw [List.mem_singleton.1 hy] at hg; exact h1.cx g hg)
  exact ⟨r9, ⟨b9.cellAt (o := 3) rfl, b9.frozen⟩, r9.keep kS hbL, g2, h1.s.trans t2⟩
end
theorem bsB_len (ix tm : Nat) : (bsB ix tm).length ≤ 28 := by
  unfold bsB
  rw [frm_len, List.length_append]
  have := (put_len ix).2
  have := (put_len tm).2
  omega
set_option maxRecDepth 100000 in
set_option maxHeartbeats 8000000 in
theorem begin_any {w : World} {c : Nat → Nat} {B L p : Nat} {d : Ds} {tm vt : Int} {lost : Bool} {v : Value} {l : List Sv} (h : LgD w c p d B L tm vt lost v l) (ix tmm : Nat) (h1 : ix < 9223372036854775808) (h2 : tmm < 9223372036854775808) (qv : Value) (q : List En) (he : EntI w qv q) (hc : ∀ b, qv.ownBlock = some b → q ≠ [] → c b = 7) (hok : ∀ x ∈ q, enOk x) (hq : q.length ≤ 8) (hy : ∀ y ∈ l, 1 ≤ y.n ∧ y.n ≤ 4611686018427387903) (hl : l.length ≤ 1000000) (hM : d.wt + d.S.length + d.ws.length + 70000000 ≤ 70368744177) (hn : d.n ≤ 1152921504606846976) :
    Calls Tryz.prog 124 #[.pointer (some ⟨L, 0, none⟩), .int .i64 (ix : Int), .int .i64 (tmm : Int), qv] w fun e w' => e = .returned (.int .i64 (bgS d (l.map Sv.sg) ix tmm q).2.2) ∧ LgE w c p (bgS d (l.map Sv.sg) ix tmm q).1 B L tm vt lost (bgS d (l.map Sv.sg) ix tmm q).2.1 w' := by
  obtain ⟨c1, g1, s1, n1⟩ := h.fresh (Keep.refl _ _)
  have hc1 : ∀ b, qv.ownBlock = some b → q ≠ [] → b < w.heap.size := fun b hb hn => he.lt hb hn
  have htl := txW_len q hok
  have hbl := bsB_len ix tmm
  have BE := hid (fun (nn : Int) W => begun_any nn ix tmm W h1 h2)
  have AD := fun W => add_ls (bsB ix tmm) (txW q) W (by omega)
  have WT0 : Hid (∀ (nn : Int) (bp : Nat) (wA W : World), SvI W B ⟨nn, ix, tmm, .slice none 0 0, .slice (some ⟨bp, 0, none⟩) 1 1, [], [((bsB ix tmm).length : Int)]⟩ → Below w.heap.size w wA → Below wA.heap.size wA W → w.heap.size ≤ bp → Calls Tryz.prog 156 #[sgV nn ix tmm (.slice none 0 0) (.slice (some ⟨bp, 0, none⟩) 1 1), qv] W fun e w' => ∃ ve vp, e = .returned (.tuple #[sgV nn ix tmm ve vp, .string ⟨(txW q).toArray⟩]) ∧ WtE W B ⟨nn, ix, tmm, .slice none 0 0, .slice (some ⟨bp, 0, none⟩) 1 1, [], [((bsB ix tmm).length : Int)]⟩ q ve vp w') := fun nn bp wA W hX hA hW hbp => by
    refine wwith_any ⟨nn, ix, tmm, .slice none 0 0, .slice (some ⟨bp, 0, none⟩) 1 1, [], [((bsB ix tmm).length : Int)]⟩ qv q B W hX (Nat.le_trans h.hB (Nat.le_trans hA.size hW.size)) ((he.next hA).next hW) hok (fun b hb hn => ⟨fun e => (by cases e), fun e => ?_⟩) (by show 0 + q.length ≤ 1000; omega) rfl ?_ ?_
    · have e2 : bp = b := by simpa [Value.ownBlock] using e
      have := hc1 b hb hn
      omega
    · show 0 ≤ ([((bsB ix tmm).length : Int)] : List Int).getLastD 0
      simp
    · show ([((bsB ix tmm).length : Int)] : List Int).getLastD 0 ≤ 1000000000000
      simp; omega
  have WR0 : Hid (∀ nn : Int, 0 ≤ nn → nn ≤ 9223372036854775807 → ∀ W c, DiskIs W c p d → Calls Tryz.prog 39 #[.pointer (some ⟨p, 0, none⟩), .string ⟨(fnB nn).toArray⟩, .string ⟨(bsB ix tmm ++ txW q).toArray⟩] W fun e w' => e = .returned (.int .i64 (wrD d (fnB nn) (bsB ix tmm ++ txW q)).2) ∧ Left W c p (wrD d (fnB nn) (bsB ix tmm ++ txW q)).1 w') := fun nn h0 h1 W c D => by
    have hfl := fnB_len nn h0 h1
    exact write_any p c d (fnB nn) (bsB ix tmm ++ txW q) W D (by rw [List.length_append]; omega) hn
  have HVW0 : Hid (∀ j, v.ownBlock = some j → j < w.heap.size) := fun j hj => h.lg.lg.bltv hj
  have HLW : Hid (∀ a ∈ l, ∀ g, a.ve.ownBlock = some g ∨ a.vp.ownBlock = some g → g < w.heap.size) := fun a ha g hg => h.lg.lg.blts ha hg
  have HHB : Hid (B ≤ w.heap.size) := h.hB
  have HN1C := hid n1
  have HY := hid hy
  obtain ⟨sa, sc, rfl⟩ := h.lg.lg.sg.row.form
  have LAS : Hid (∀ m, l.length = m + 1 → ∀ y, l[m]? = some y → Calls Tryz.prog 63 #[.pointer (some ⟨L, 0, none⟩)] w fun e w' => e = .returned (sgV y.n y.ix y.tm y.ve y.vp) ∧ Below w.heap.size w w') := fun m hm y hy => wlast_any g1.lg.lg m hm (by omega) y hy
  obtain ⟨N, hN⟩ : ∃ N, l.length = N := ⟨_, rfl⟩
  obtain ⟨N1, hN1⟩ : ∃ N1, N + 1 = N1 := ⟨_, rfl⟩
  have HLN := hid hN
  have HN1 := hid hN1
  have HL9 : Hid (N1 ≤ 1048576) := by show _ ≤ _; omega
  have HL10 : Hid (N1 * 72 ≤ 140737488355328) := by show _ ≤ _; omega
  rw [hN] at h g1 HVW0
  have HVW : Hid (∀ j, (Value.slice sa N sc).ownBlock = some j → j < w.heap.size) := HVW0.out
  have H1 := hid g1
  have HS1 := hid s1
  have c3l := g1.lg.lg.bx.cellAt (o := 3) rfl
  clear h he hc hok hq hy hM hn g1 s1 n1 hc1 htl hbl HVW0 hN1
  by_cases hz : N = 0
  · have g0 : decide ((N : Int) > 0) = false := decide_eq_false (by omega)
    have g00 : decide (N > 0) = false := decide_eq_false (by omega)
    obtain ⟨nn, hnn⟩ : ∃ nn : Int, nn = 1 := ⟨_, rfl⟩
    have HNN : Hid (nxN (l.map Sv.sg) = nn) := by
      obtain rfl : l = [] := List.length_eq_zero_iff.1 (hN.trans hz)
      rw [hnn]; rfl
    have HNB : Hid (1 ≤ nn ∧ nn ≤ 4611686018427387904) := by show _ ∧ _; omega
    have GA := H1
    have SA := HS1
    have HAB : Hid (Below w.heap.size w w) := Below.refl _ _
    have hnn1 : (1 : Int) = nn := hnn.symm
    clear H1 HS1 hN hz LAS hl hnn
    by_cases hbig : 4611686018427387903 < nn ∨ 1099511627776 < ix
    · have HE : Hid (bgS d (l.map Sv.sg) ix tmm q = (d, l.map Sv.sg, 22)) := by show _ = _; unfold bgS; rw [HNN.out, if_pos hbig]
      rw [HE.out]
      by_cases hb1 : 4611686018427387903 < nn
      · have g1 : decide (nn > 4611686018427387903) = true := decide_eq_true hb1
        clear hbig hb1 HE
        go_enter Tryz.func124, Tryz.ntmps124
        have FIN : Hid (LgE w c p d B L tm vt lost (l.map Sv.sg) w) := ⟨c1, _, _, GA.out, rfl, SA.out⟩
        clear BE WT0 WR0 HNN GA SA
        go_wp2
        go_ret
        exact ⟨rfl, FIN.out⟩
      · have g1 : decide (nn > 4611686018427387903) = false := decide_eq_false hb1
        have g2 : decide ((ix : Int) > 1099511627776) = true := decide_eq_true (by rcases hbig with h | h; exact absurd h hb1; omega)
        clear hbig hb1 HE
        go_enter Tryz.func124, Tryz.ntmps124
        have FIN : Hid (LgE w c p d B L tm vt lost (l.map Sv.sg) w) := ⟨c1, _, _, GA.out, rfl, SA.out⟩
        clear BE WT0 WR0 HNN GA SA
        go_wp2
        go_ret
        exact ⟨rfl, FIN.out⟩
    have g1 : decide (nn > 4611686018427387903) = false := decide_eq_false (fun h => hbig (.inl h))
    have g2 : decide ((ix : Int) > 1099511627776) = false := decide_eq_false (fun h => hbig (.inr (by omega)))
    have HE : Hid (bgS d (l.map Sv.sg) ix tmm q = ((wrD d (fnB nn) (bsB ix tmm ++ txW q)).1, if (wrD d (fnB nn) (bsB ix tmm ++ txW q)).2 = 0 then l.map Sv.sg ++ [bgG nn ix tmm q] else l.map Sv.sg, (wrD d (fnB nn) (bsB ix tmm ++ txW q)).2)) := by show _ = _; unfold bgS; rw [HNN.out, if_neg hbig]
    rw [HE.out]
    have WR := hid (WR0.out nn (by have := HNB.out; omega) (by have := HNB.out; omega))
    generalize wrD d (fnB nn) (bsB ix tmm ++ txW q) = A at *
    obtain ⟨d2, er⟩ := A
    simp only at WR ⊢
    have FI : Hid (∀ (ve vp : Value) W, GV W → Calls Tryz.prog 123 #[.agg #[.int .i64 nn, .int .i64 (ix : Int), .int .i64 (tmm : Int), ve, vp]] W fun e w' => e = .returned (.string ⟨(fnB nn).toArray⟩) ∧ Below W.heap.size W w') := fun ve vp W hG => sgfile_any nn ix tmm ve vp W (by have := HNB.out; omega) (by have := HNB.out; omega) hG
    clear hbig HE WR0 HNN
    go_enter Tryz.func124, Tryz.ntmps124
    go_wp2_with fail
    refine (BE.out nn w).mono ?_
    rintro e w3 ⟨bp, rfl, oi, b3⟩
    have K3 := hid b3
    unfold sgV
    have X3 : Hid (SvI (w3.alloc (.cells #[.int .i64 nn, .int .i64 (ix : Int), .int .i64 (tmm : Int), .slice none 0 0, .slice (some ⟨bp, 0, none⟩) 1 1] 126)) B ⟨nn, ix, tmm, .slice none 0 0, .slice (some ⟨bp, 0, none⟩) 1 1, [], [((bsB ix tmm).length : Int)]⟩) := ⟨.inl ⟨rfl, .inl ⟨rfl, rfl⟩⟩, (ORow.next (.inl oi) (below_al (Below.refl _ _) _)).base (Nat.le_trans HHB.out SA.out.kp.size)⟩
    have HBP : Hid (w.heap.size ≤ bp ∧ bp < w3.heap.size) := ⟨Nat.le_trans SA.out.kp.size (ownsRow_ge oi rfl), ownsRow_lt oi rfl⟩
    have B3 : Hid (Below w.heap.size w (w3.alloc (.cells #[.int .i64 nn, .int .i64 (ix : Int), .int .i64 (tmm : Int), .slice none 0 0, .slice (some ⟨bp, 0, none⟩) 1 1] 126))) := below_al b3 _
    have R3 := hid (srow w3 [.int .i64 nn, .int .i64 (ix : Int), .int .i64 (tmm : Int), .slice none 0 0, .slice (some ⟨bp, 0, none⟩) 1 1] 126)
    have HBPA : Hid (w.heap.size ≤ bp) := ownsRow_ge oi rfl
    have WT := hid (WT0.out nn bp w _ X3.out HAB.out B3.out HBP.out.1)
    unfold sgV at WT
    have x0 := R3.out.cellAt (o := 0) rfl
    have x1 := R3.out.cellAt (o := 1) rfl
    have x2 := R3.out.cellAt (o := 2) rfl
    have x3 := R3.out.cellAt (o := 3) rfl
    have x4 := R3.out.cellAt (o := 4) rfl
    clear oi b3 BE WT0 X3
    go_wp2_with fail
    refine WT.out.mono ?_
    rintro e w4 ⟨ve, vp, rfl, we⟩
    obtain ⟨ea, ec, hve⟩ := we.sv.oe.form
    obtain ⟨pa, pc, hvp⟩ := we.sv.oi.form
    simp only at hve hvp
    subst hve hvp
    have SVX := hid we.sv
    generalize HX : (⟨nn, ix, tmm, .slice ea ([] ++ q).length ec, .slice pa ([((bsB ix tmm).length : Int)] ++ psX (Sv.sg ⟨nn, ix, tmm, .slice none 0 0, .slice (some ⟨bp, 0, none⟩) 1 1, [], [((bsB ix tmm).length : Int)]⟩).sz q).length pc, [] ++ q, [((bsB ix tmm).length : Int)] ++ psX (Sv.sg ⟨nn, ix, tmm, .slice none 0 0, .slice (some ⟨bp, 0, none⟩) 1 1, [], [((bsB ix tmm).length : Int)]⟩).sz q⟩ : Sv) = X at *
    have HWT : Hid (bgG nn ix tmm q = X.sg) := by subst HX; rfl
    have HXC : Hid (svC X = [.int .i64 nn, .int .i64 (ix : Int), .int .i64 (tmm : Int), .slice ea ([] ++ q).length ec, .slice pa ([((bsB ix tmm).length : Int)] ++ psX (Sv.sg ⟨nn, ix, tmm, .slice none 0 0, .slice (some ⟨bp, 0, none⟩) 1 1, [], [((bsB ix tmm).length : Int)]⟩).sz q).length pc]) := by subst HX; rfl
    have HXV : Hid (X.ve = .slice ea ([] ++ q).length ec ∧ X.vp = .slice pa ([((bsB ix tmm).length : Int)] ++ psX (Sv.sg ⟨nn, ix, tmm, .slice none 0 0, .slice (some ⟨bp, 0, none⟩) 1 1, [], [((bsB ix tmm).length : Int)]⟩).sz q).length pc) := by subst HX; exact ⟨rfl, rfl⟩
    have HXO : Hid (∀ j, X.ve.ownBlock = some j ∨ X.vp.ownBlock = some j → w.heap.size ≤ j) := fun j hj => by
      have hs : w.heap.size ≤ w3.heap.size := Nat.le_trans SA.out.kp.size K3.out.size
      have ha : (w3.alloc (.cells #[.int .i64 nn, .int .i64 (ix : Int), .int .i64 (tmm : Int), .slice none 0 0, .slice (some ⟨bp, 0, none⟩) 1 1] 126)).heap.size = w3.heap.size + 1 := by simp
      rw [HXV.out.1, HXV.out.2] at hj
      rcases hj with hj | hj
      · rcases we.le j hj with e | e
        · cases e
        · omega
      · rcases we.lp j hj with e | e
        · have e2 : bp = j := by simpa [Value.ownBlock] using e
          have := HBP.out; omega
        · omega
    have HSVX := SVX
    have WE := hid we
    clear HX WT we SVX
    simp only at *
    generalize ([] ++ q).length = en at *
    generalize ([((bsB ix tmm).length : Int)] ++ psX (Sv.sg ⟨nn, ix, tmm, .slice none 0 0, .slice (some ⟨bp, 0, none⟩) 1 1, [], [((bsB ix tmm).length : Int)]⟩).sz q).length = pn at *
    have R4 := R3.out.keep WE.out.kp (fun e => by
      rcases e with e | e
      · cases e
      · have e2 : bp = w3.heap.size := by simpa [Value.ownBlock] using e
        have := HBP.out; omega)
    have d0 := R4.cellAt (o := 0) rfl
    have d1 := R4.cellAt (o := 1) rfl
    have d2c := R4.cellAt (o := 2) rfl
    have d3 := R4.cellAt (o := 3) rfl
    have d4 := R4.cellAt (o := 4) rfl
    have f0 : w4.frozen? ⟨w3.heap.size, 0, none⟩ = false := R4.frozen
    have f1 : w4.frozen? ⟨w3.heap.size, 1, none⟩ = false := R4.frozen
    have f2 : w4.frozen? ⟨w3.heap.size, 2, none⟩ = false := R4.frozen
    have f3 : w4.frozen? ⟨w3.heap.size, 3, none⟩ = false := R4.frozen
    have f4 : w4.frozen? ⟨w3.heap.size, 4, none⟩ = false := R4.frozen
    have FV := hid (five R4 (.int .i64 nn) (.int .i64 (ix : Int)) (.int .i64 (tmm : Int)) (.slice ea en ec) (.slice pa pn pc))
    have S3p : Hid (FlS w c p d B L tm vt lost (.slice sa N sc) l w3.heap.size X c1 (((((w4.setCell ⟨w3.heap.size, 0, none⟩ (.int .i64 nn)).setCell ⟨w3.heap.size, 1, none⟩ (.int .i64 (ix : Int))).setCell ⟨w3.heap.size, 2, none⟩ (.int .i64 (tmm : Int))).setCell ⟨w3.heap.size, 3, none⟩ (.slice ea en ec)).setCell ⟨w3.heap.size, 4, none⟩ (.slice pa pn pc))) := by
      have hs : w.heap.size ≤ w3.heap.size := K3.out.size
      have k34 : Keep (fun _ => False) w (((((w4.setCell ⟨w3.heap.size, 0, none⟩ (.int .i64 nn)).setCell ⟨w3.heap.size, 1, none⟩ (.int .i64 (ix : Int))).setCell ⟨w3.heap.size, 2, none⟩ (.int .i64 (tmm : Int))).setCell ⟨w3.heap.size, 3, none⟩ (.slice ea en ec)).setCell ⟨w3.heap.size, 4, none⟩ (.slice pa pn pc)) := ((B3.out.keep (fun _ => False)).then WE.out.kp (fun j hj e => by
        rcases e with e | e
        · cases e
        · have e2 : bp = j := by simpa [Value.ownBlock] using e
          have := HBPA.out; omega)).then FV.out.2 (fun j hj e => by omega)
      have xs := HSVX.out.keep FV.out.2 (HSVX.out.not_box R4)
      refine ⟨GA.out.keep1 k34, SA.out.keep1 k34, by rw [HXC.out]; exact FV.out.1, xs, HN1C.out _ (Nat.le_trans SA.out.kp.size hs), fun j hj => HN1C.out j (HXO.out j hj)⟩
    have HBXL : Hid (w.heap.size ≤ w3.heap.size) := Nat.le_trans SA.out.kp.size K3.out.size
    have HVB : Hid (∀ j, (Value.slice sa N sc).ownBlock = some j → ¬ j = w3.heap.size) := fun j hj e => by have := HVW.out j hj; have := HBXL.out; omega
    have XAP : Hid (∀ a ∈ l, (∀ g, a.ve.ownBlock = some g → ¬ X.ve.ownBlock = some g) ∧ ∀ g, a.vp.ownBlock = some g → ¬ X.vp.ownBlock = some g) := fun a ha => ⟨fun g hg e => by have := HLW.out a ha g (.inl hg); have := HXO.out g (.inl e); omega, fun g hg e => by have := HLW.out a ha g (.inr hg); have := HXO.out g (.inr e); omega⟩
    have RB : Hid (∀ c2 d W, FlS w c p d B L tm vt lost (.slice sa N sc) l w3.heap.size X c2 W → RowIs W w3.heap.size [.int .i64 nn, .int .i64 (ix : Int), .int .i64 (tmm : Int), .slice ea en ec, .slice pa pn pc] 126) := fun c2 d W h => by have := h.b; rw [HXC.out] at this; exact this
    clear R4 WE GA SA K3 B3 R3 HBP x0 x1 x2 x3 x4
    go_wp2_with fail
    generalize ((((w4.setCell ⟨w3.heap.size, 0, none⟩ (.int .i64 nn)).setCell ⟨w3.heap.size, 1, none⟩ (.int .i64 (ix : Int))).setCell ⟨w3.heap.size, 2, none⟩ (.int .i64 (tmm : Int))).setCell ⟨w3.heap.size, 3, none⟩ (.slice ea en ec)).setCell ⟨w3.heap.size, 4, none⟩ (.slice pa pn pc) = W5 at *
    generalize w3.heap.size = bx at *
    clear d0 d1 d2c d3 d4 f0 f1 f2 f3 f4 FV
    have S3 := hid (S3p.out.next (Below.refl _ _).drew)
    clear S3p
    have R3 := hid (RB.out _ _ _ S3.out)
    have Z0 : (W5.drew.cell? ⟨L, 0, none⟩ = some (.pointer (some ⟨p, 0, none⟩)) ∧ W5.drew.cell? ⟨bx, 0, none⟩ = some (.int .i64 nn) ∧ W5.drew.cell? ⟨bx, 1, none⟩ = some (.int .i64 (ix : Int)) ∧ W5.drew.cell? ⟨bx, 2, none⟩ = some (.int .i64 (tmm : Int)) ∧ W5.drew.cell? ⟨bx, 3, none⟩ = some (.slice ea en ec) ∧ W5.drew.cell? ⟨bx, 4, none⟩ = some (.slice pa pn pc)) := ⟨S3.out.g.lg.lg.bx.cellAt (o := 0) rfl, R3.out.cellAt (o := 0) rfl, R3.out.cellAt (o := 1) rfl, R3.out.cellAt (o := 2) rfl, R3.out.cellAt (o := 3) rfl, R3.out.cellAt (o := 4) rfl⟩
    refine wp_region_held_drew (S := fun W => W.cell? ⟨L, 0, none⟩ = some (.pointer (some ⟨p, 0, none⟩)) ∧ W.cell? ⟨bx, 0, none⟩ = some (.int .i64 nn) ∧ W.cell? ⟨bx, 1, none⟩ = some (.int .i64 (ix : Int)) ∧ W.cell? ⟨bx, 2, none⟩ = some (.int .i64 (tmm : Int)) ∧ W.cell? ⟨bx, 3, none⟩ = some (.slice ea en ec) ∧ W.cell? ⟨bx, 4, none⟩ = some (.slice pa pn pc)) (by kernel_rfl) Z0 (fun hHeld => ?_)
    generalize W5.drew = u0 at *
    refine wpAnyH_take (i := 0) (v := ?vv1) rfl (by kernel_rfl) (by kernel_rfl) (by kernel_rfl) (fun _ _ _ h => h) (Or.inl ⟨by rfl, ?hy1⟩) (by assumption) ?rest1
    case hy1 => (intro w hSw; (try dsimp only at hSw); go_simp; first | done | with_reducible rfl)
    try simp only [Act.put, List.getElem_toArray, List.getElem_cons_succ, List.getElem_cons_zero, List.setIfInBounds_toArray, List.set_cons_zero, List.set_cons_succ]
    refine wpAnyH_take (i := 1) (v := ?vv2) rfl (by kernel_rfl) (by kernel_rfl) (by kernel_rfl) (fun _ _ _ h => h) (Or.inl ⟨by rfl, ?hy2⟩) (by assumption) ?rest2
    case hy2 => (intro w hSw; (try dsimp only at hSw); go_simp; first | done | with_reducible rfl)
    try simp only [Act.put, List.getElem_toArray, List.getElem_cons_succ, List.getElem_cons_zero, List.setIfInBounds_toArray, List.set_cons_zero, List.set_cons_succ]
    refine wpAnyH_take (i := 2) (v := ?vv3) rfl (by kernel_rfl) (by kernel_rfl) (by kernel_rfl) (fun _ _ _ h => h) (Or.inl ⟨by rfl, ?hy3⟩) (by assumption) ?rest3
    case hy3 => (intro w hSw; (try dsimp only at hSw); go_simp; first | done | with_reducible rfl)
    try simp only [Act.put, List.getElem_toArray, List.getElem_cons_succ, List.getElem_cons_zero, List.setIfInBounds_toArray, List.set_cons_zero, List.set_cons_succ]
    refine wpAnyH_take (i := 3) (v := ?vv4) rfl (by kernel_rfl) (by kernel_rfl) (by kernel_rfl) (fun _ _ _ h => h) (Or.inl ⟨by rfl, ?hy4⟩) (by assumption) ?rest4
    case hy4 => (intro w hSw; (try dsimp only at hSw); go_simp; first | done | with_reducible rfl)
    try simp only [Act.put, List.getElem_toArray, List.getElem_cons_succ, List.getElem_cons_zero, List.setIfInBounds_toArray, List.set_cons_zero, List.set_cons_succ]
    refine wpAnyH_take (i := 4) (v := ?vv5) rfl (by kernel_rfl) (by kernel_rfl) (by kernel_rfl) (fun _ _ _ h => h) (Or.inl ⟨by rfl, ?hy5⟩) (by assumption) ?rest5
    case hy5 => (intro w hSw; (try dsimp only at hSw); go_simp; first | done | with_reducible rfl)
    try simp only [Act.put, List.getElem_toArray, List.getElem_cons_succ, List.getElem_cons_zero, List.setIfInBounds_toArray, List.set_cons_zero, List.set_cons_succ]
    refine wpAnyH_take (i := 6) (v := ?vv6) rfl (by kernel_rfl) (by kernel_rfl) (by kernel_rfl) (fun _ _ _ h => h) (Or.inl ⟨by rfl, ?hy6⟩) (by assumption) ?rest6
    case hy6 => (intro w hSw; (try dsimp only at hSw); go_simp; first | done | with_reducible rfl)
    try simp only [Act.put, List.getElem_toArray, List.getElem_cons_succ, List.getElem_cons_zero, List.setIfInBounds_toArray, List.set_cons_zero, List.set_cons_succ]
    refine wpAnyH_take (i := 7) (v := ?vv7) rfl (by kernel_rfl) (by kernel_rfl) (by kernel_rfl) (fun _ _ _ h => h) (Or.inl ⟨by rfl, ?hy7⟩) (by assumption) ?rest7
    case hy7 => (intro w hSw; (try dsimp only at hSw); go_simp; first | done | with_reducible rfl)
    try simp only [Act.put, List.getElem_toArray, List.getElem_cons_succ, List.getElem_cons_zero, List.setIfInBounds_toArray, List.set_cons_zero, List.set_cons_succ]
    refine wpAnyH_take (i := 8) (v := ?vv8) rfl (by kernel_rfl) (by kernel_rfl) (by kernel_rfl) (fun _ _ _ h => h) (Or.inl ⟨by rfl, ?hy8⟩) (by assumption) ?rest8
    case hy8 => (intro w hSw; (try dsimp only at hSw); go_simp; first | done | with_reducible rfl)
    try simp only [Act.put, List.getElem_toArray, List.getElem_cons_succ, List.getElem_cons_zero, List.setIfInBounds_toArray, List.set_cons_zero, List.set_cons_succ]
    refine wpAnyH_ready (rs := [5]) (by kernel_rfl) (by simp) ?_
    refine AllReadyH.cons rfl (fun K hK => ?_) AllReadyH.nil
    go_simp
    refine (FI.out _ _ _ S3.out.g.gv).mono ?_
    rintro e u1 ⟨rfl, b1⟩
    have S4 := hid (S3.out.next b1)
    have R4 := hid (RB.out _ _ _ S4.out)
    have Z1 : (u1.cell? ⟨L, 0, none⟩ = some (.pointer (some ⟨p, 0, none⟩)) ∧ u1.cell? ⟨bx, 0, none⟩ = some (.int .i64 nn) ∧ u1.cell? ⟨bx, 1, none⟩ = some (.int .i64 (ix : Int)) ∧ u1.cell? ⟨bx, 2, none⟩ = some (.int .i64 (tmm : Int)) ∧ u1.cell? ⟨bx, 3, none⟩ = some (.slice ea en ec) ∧ u1.cell? ⟨bx, 4, none⟩ = some (.slice pa pn pc)) := ⟨S4.out.g.lg.lg.bx.cellAt (o := 0) rfl, R4.out.cellAt (o := 0) rfl, R4.out.cellAt (o := 1) rfl, R4.out.cellAt (o := 2) rfl, R4.out.cellAt (o := 3) rfl, R4.out.cellAt (o := 4) rfl⟩
    clear b1 S3 R3 Z0 hHeld
    go_wp2_with fail
    refine hK.out _ _ Z1 (fun hHeld => ?_)
    clear hK K
    try simp only [Act.put, List.getElem_toArray, List.getElem_cons_succ, List.getElem_cons_zero, List.setIfInBounds_toArray, List.set_cons_zero, List.set_cons_succ]
    refine wpAnyH_ready (rs := [9]) (by kernel_rfl) (by simp) ?_
    refine AllReadyH.cons rfl (fun K hK => ?_) AllReadyH.nil
    go_simp
    refine (WR.out _ _ S4.out.g.lg.dk).mono ?_
    rintro e u2 ⟨rfl, hL⟩
    obtain ⟨c2, s5⟩ := S4.out.left hL
    have S5 := hid s5
    have R5 := hid (RB.out _ _ _ S5.out)
    have Z2 : (u2.cell? ⟨L, 0, none⟩ = some (.pointer (some ⟨p, 0, none⟩)) ∧ u2.cell? ⟨bx, 0, none⟩ = some (.int .i64 nn) ∧ u2.cell? ⟨bx, 1, none⟩ = some (.int .i64 (ix : Int)) ∧ u2.cell? ⟨bx, 2, none⟩ = some (.int .i64 (tmm : Int)) ∧ u2.cell? ⟨bx, 3, none⟩ = some (.slice ea en ec) ∧ u2.cell? ⟨bx, 4, none⟩ = some (.slice pa pn pc)) := ⟨S5.out.g.lg.lg.bx.cellAt (o := 0) rfl, R5.out.cellAt (o := 0) rfl, R5.out.cellAt (o := 1) rfl, R5.out.cellAt (o := 2) rfl, R5.out.cellAt (o := 3) rfl, R5.out.cellAt (o := 4) rfl⟩
    clear s5 hL WR S4 R4 Z1 hHeld
    go_wp2_with fail
    refine hK.out _ _ Z2 (fun hHeld => ?_)
    clear hK K
    try simp only [Act.put, List.getElem_toArray, List.getElem_cons_succ, List.getElem_cons_zero, List.setIfInBounds_toArray, List.set_cons_zero, List.set_cons_succ]
    refine wpAnyH_take (i := 10) (v := ?vv9) rfl (by kernel_rfl) (by kernel_rfl) (by kernel_rfl) (fun _ _ _ h => h) (Or.inl ⟨by rfl, ?hy9⟩) (by assumption) ?rest9
    case hy9 => (intro w hSw; (try dsimp only at hSw); go_simp; first | done | with_reducible rfl)
    try simp only [Act.put, List.getElem_toArray, List.getElem_cons_succ, List.getElem_cons_zero, List.setIfInBounds_toArray, List.set_cons_zero, List.set_cons_succ]
    refine wpAnyH_done (by kernel_rfl) ?_ _
    clear Z2 hHeld FI
    by_cases her : er = 0
    · subst her
      go_wp2_with fail
      obtain ⟨c3, s6, n6⟩ := S5.out.fresh (Below.refl _ _).drew
      have S6 := hid s6
      have HN6 : Hid (∀ j, u2.drew.heap.size ≤ j → c3 j = 8) := n6
      have R6 := hid (RB.out _ _ _ S6.out)
      have Z5 : (u2.drew.cell? ⟨bx, 0, none⟩ = some (.int .i64 nn) ∧ u2.drew.cell? ⟨bx, 1, none⟩ = some (.int .i64 (ix : Int)) ∧ u2.drew.cell? ⟨bx, 2, none⟩ = some (.int .i64 (tmm : Int)) ∧ u2.drew.cell? ⟨bx, 3, none⟩ = some (.slice ea en ec) ∧ u2.drew.cell? ⟨bx, 4, none⟩ = some (.slice pa pn pc)) := ⟨R6.out.cellAt (o := 0) rfl, R6.out.cellAt (o := 1) rfl, R6.out.cellAt (o := 2) rfl, R6.out.cellAt (o := 3) rfl, R6.out.cellAt (o := 4) rfl⟩
      have HB9 : Hid (B ≤ (u2.drew.alloc (.cells #[.int .i64 nn, .int .i64 (ix : Int), .int .i64 (tmm : Int), .slice ea en ec, .slice pa pn pc] 126)).heap.size) := by have h1 := S6.out.g.hB; show _ ≤ _; simp; exact Nat.le_succ_of_le h1
      have HXL : Hid ((svC X).length = 1 * 5) := by show _ = _; rw [HXC.out]; rfl
      clear S5 R5 s6 n6 R6
      refine wp_region_held_drew (S := fun W => W.cell? ⟨bx, 0, none⟩ = some (.int .i64 nn) ∧ W.cell? ⟨bx, 1, none⟩ = some (.int .i64 (ix : Int)) ∧ W.cell? ⟨bx, 2, none⟩ = some (.int .i64 (tmm : Int)) ∧ W.cell? ⟨bx, 3, none⟩ = some (.slice ea en ec) ∧ W.cell? ⟨bx, 4, none⟩ = some (.slice pa pn pc)) (by kernel_rfl) Z5 (fun hHeld => ?_)
      generalize u2.drew = u3 at *
      have x3c := S6.out.g.lg.lg.bx.cellAt (o := 3) rfl
      have S7 := hid (S6.out.next (below_al (Below.refl _ _) (.cells #[.int .i64 nn, .int .i64 (ix : Int), .int .i64 (tmm : Int), .slice ea en ec, .slice pa pn pc] 126)))
      have y3c := S7.out.g.lg.lg.bx.cellAt (o := 3) rfl
      have R7 := hid (RB.out _ _ _ S7.out)
      have Z6 : ((u3.alloc (.cells #[.int .i64 nn, .int .i64 (ix : Int), .int .i64 (tmm : Int), .slice ea en ec, .slice pa pn pc] 126)).cell? ⟨bx, 0, none⟩ = some (.int .i64 nn) ∧ (u3.alloc (.cells #[.int .i64 nn, .int .i64 (ix : Int), .int .i64 (tmm : Int), .slice ea en ec, .slice pa pn pc] 126)).cell? ⟨bx, 1, none⟩ = some (.int .i64 (ix : Int)) ∧ (u3.alloc (.cells #[.int .i64 nn, .int .i64 (ix : Int), .int .i64 (tmm : Int), .slice ea en ec, .slice pa pn pc] 126)).cell? ⟨bx, 2, none⟩ = some (.int .i64 (tmm : Int)) ∧ (u3.alloc (.cells #[.int .i64 nn, .int .i64 (ix : Int), .int .i64 (tmm : Int), .slice ea en ec, .slice pa pn pc] 126)).cell? ⟨bx, 3, none⟩ = some (.slice ea en ec) ∧ (u3.alloc (.cells #[.int .i64 nn, .int .i64 (ix : Int), .int .i64 (tmm : Int), .slice ea en ec, .slice pa pn pc] 126)).cell? ⟨bx, 4, none⟩ = some (.slice pa pn pc)) := ⟨R7.out.cellAt (o := 0) rfl, R7.out.cellAt (o := 1) rfl, R7.out.cellAt (o := 2) rfl, R7.out.cellAt (o := 3) rfl, R7.out.cellAt (o := 4) rfl⟩
      have OG9 := hid S7.out.g.lg.lg.sg.row
      rw [HLN.out] at OG9
      have HX9 : Hid (RowC (u3.alloc (.cells #[.int .i64 nn, .int .i64 (ix : Int), .int .i64 (tmm : Int), .slice ea en ec, .slice pa pn pc] 126)) (.slice (some ⟨u3.heap.size, 0, none⟩) 1 1) 1 (svC X)) := by have h9 := own_made u3 (svC X) 126 5 1 0 (Nat.zero_le _) rfl (by omega); rw [HXC.out] at h9 ⊢; exact RowC.own h9
      have HC9 : Hid (∀ u ∈ svC X, u.oneCell' = true) := by show ∀ u ∈ svC X, _; rw [HXC.out]; intro u hu; simp at hu; rcases hu with rfl | rfl | rfl | rfl | rfl <;> rfl
      have FIN := hid (S6.out.snoc HN6.out XAP.out HVB.out N N1 HLN.out HN1.out)
      rw [HXC.out] at FIN
      clear S6 S7 R7
      refine wpAnyH_take (i := 0) (v := ?vv10) rfl (by kernel_rfl) (by kernel_rfl) (by kernel_rfl) (fun _ _ _ h => h) (Or.inl ⟨by rfl, ?hy10⟩) (by assumption) ?rest10
      case hy10 => (intro w hSw; (try dsimp only at hSw); go_simp; first | done | with_reducible rfl)
      try simp only [Act.put, List.getElem_toArray, List.getElem_cons_succ, List.getElem_cons_zero, List.setIfInBounds_toArray, List.set_cons_zero, List.set_cons_succ]
      refine wpAnyH_take (i := 1) (v := ?vv11) rfl (by kernel_rfl) (by kernel_rfl) (by kernel_rfl) (fun _ _ _ h => h) (Or.inl ⟨by rfl, ?hy11⟩) (by assumption) ?rest11
      case hy11 => (intro w hSw; (try dsimp only at hSw); go_simp; first | done | with_reducible rfl)
      try simp only [Act.put, List.getElem_toArray, List.getElem_cons_succ, List.getElem_cons_zero, List.setIfInBounds_toArray, List.set_cons_zero, List.set_cons_succ]
      refine wpAnyH_take (i := 2) (v := ?vv12) rfl (by kernel_rfl) (by kernel_rfl) (by kernel_rfl) (fun _ _ _ h => h) (Or.inl ⟨by rfl, ?hy12⟩) (by assumption) ?rest12
      case hy12 => (intro w hSw; (try dsimp only at hSw); go_simp; first | done | with_reducible rfl)
      try simp only [Act.put, List.getElem_toArray, List.getElem_cons_succ, List.getElem_cons_zero, List.setIfInBounds_toArray, List.set_cons_zero, List.set_cons_succ]
      refine wpAnyH_take (i := 3) (v := ?vv13) rfl (by kernel_rfl) (by kernel_rfl) (by kernel_rfl) (fun _ _ _ h => h) (Or.inl ⟨by rfl, ?hy13⟩) (by assumption) ?rest13
      case hy13 => (intro w hSw; (try dsimp only at hSw); go_simp; first | done | with_reducible rfl)
      try simp only [Act.put, List.getElem_toArray, List.getElem_cons_succ, List.getElem_cons_zero, List.setIfInBounds_toArray, List.set_cons_zero, List.set_cons_succ]
      refine wpAnyH_take (i := 5) (v := ?vv14) rfl (by kernel_rfl) (by kernel_rfl) (by kernel_rfl) (fun _ _ _ h => h) (Or.inl ⟨by rfl, ?hy14⟩) (by assumption) ?rest14
      case hy14 => (intro w hSw; (try dsimp only at hSw); go_simp; first | done | with_reducible rfl)
      try simp only [Act.put, List.getElem_toArray, List.getElem_cons_succ, List.getElem_cons_zero, List.setIfInBounds_toArray, List.set_cons_zero, List.set_cons_succ]
      refine wpAnyH_ready (rs := [4, 6]) (by kernel_rfl) (by simp) ?_
      refine AllReadyH.cons rfl (fun K hK => ?_) (AllReadyH.cons rfl (fun K hK => ?_) AllReadyH.nil)
      · go_simp
        refine hK.out _ _ Z5 (fun hHeld => ?_)
        clear hK K
        try simp only [Act.put, List.getElem_toArray, List.getElem_cons_succ, List.getElem_cons_zero, List.setIfInBounds_toArray, List.set_cons_zero, List.set_cons_succ]
        refine wpAnyH_ready (rs := [6]) (by kernel_rfl) (by simp) ?_
        refine AllReadyH.cons rfl (fun K hK => ?_) AllReadyH.nil
        go_simp
        refine hK.out _ _ Z6 (fun hHeld => ?_)
        clear hK K
        try simp only [Act.put, List.getElem_toArray, List.getElem_cons_succ, List.getElem_cons_zero, List.setIfInBounds_toArray, List.set_cons_zero, List.set_cons_succ]
        refine wpAnyH_ready (rs := [7]) (by kernel_rfl) (by simp) ?_
        refine AllReadyH.cons rfl (fun K hK => ?_) AllReadyH.nil
        refine step_gappP (by rfl) _ _ elSg (by rfl) B (.slice sa N sc) (.slice (some ⟨u3.heap.size, 0, none⟩) 1 1) (svsC l) (svC X) N 1 N1 HN1.out (by rfl) (by rfl) OG9.out HB9.out HX9.out HXL.out HC9.out (by omega) HL9.out HL10.out ?_
        rw [HXC.out]
        intro sa2 sc2 w9 ho9 hk9
        obtain ⟨R9, ⟨g9, f9⟩, R98, GF, SF⟩ := FIN.out _ _ _ ho9 hk9
        have Z7 : (w9.cell? ⟨bx, 0, none⟩ = some (.int .i64 nn) ∧ w9.cell? ⟨bx, 1, none⟩ = some (.int .i64 (ix : Int)) ∧ w9.cell? ⟨bx, 2, none⟩ = some (.int .i64 (tmm : Int)) ∧ w9.cell? ⟨bx, 3, none⟩ = some (.slice ea en ec) ∧ w9.cell? ⟨bx, 4, none⟩ = some (.slice pa pn pc)) := ⟨R9.cellAt (o := 0) rfl, R9.cellAt (o := 1) rfl, R9.cellAt (o := 2) rfl, R9.cellAt (o := 3) rfl, R9.cellAt (o := 4) rfl⟩
        have Z8 : ((w9.setCell ⟨L, 3, none⟩ (.slice sa2 N1 sc2)).cell? ⟨bx, 0, none⟩ = some (.int .i64 nn) ∧ (w9.setCell ⟨L, 3, none⟩ (.slice sa2 N1 sc2)).cell? ⟨bx, 1, none⟩ = some (.int .i64 (ix : Int)) ∧ (w9.setCell ⟨L, 3, none⟩ (.slice sa2 N1 sc2)).cell? ⟨bx, 2, none⟩ = some (.int .i64 (tmm : Int)) ∧ (w9.setCell ⟨L, 3, none⟩ (.slice sa2 N1 sc2)).cell? ⟨bx, 3, none⟩ = some (.slice ea en ec) ∧ (w9.setCell ⟨L, 3, none⟩ (.slice sa2 N1 sc2)).cell? ⟨bx, 4, none⟩ = some (.slice pa pn pc)) := ⟨R98.cellAt (o := 0) rfl, R98.cellAt (o := 1) rfl, R98.cellAt (o := 2) rfl, R98.cellAt (o := 3) rfl, R98.cellAt (o := 4) rfl⟩
        have HGF := hid GF
        have HSF := hid SF
        clear ho9 hk9 FIN R9 R98 GF SF
        refine hK.out _ _ Z7 (fun hHeld => ?_)
        clear hK K
        try simp only [Act.put, List.getElem_toArray, List.getElem_cons_succ, List.getElem_cons_zero, List.setIfInBounds_toArray, List.set_cons_zero, List.set_cons_succ]
        refine wpAnyH_take (i := 8) (v := ?vv15) rfl (by kernel_rfl) (by kernel_rfl) (by kernel_rfl) (fun _ _ _ h => h) (Or.inl ⟨by rfl, ?hy15⟩) (by assumption) ?rest15
        case hy15 => (intro w hSw; (try dsimp only at hSw); go_simp; first | done | with_reducible rfl)
        try simp only [Act.put, List.getElem_toArray, List.getElem_cons_succ, List.getElem_cons_zero, List.setIfInBounds_toArray, List.set_cons_zero, List.set_cons_succ]
        refine wpAnyH_take (i := 9) (v := ?vv16) rfl (by kernel_rfl) (by kernel_rfl) (by kernel_rfl) (fun _ _ _ h => h) (Or.inl ⟨by rfl, ?hy16⟩) (by assumption) ?rest16
        case hy16 => (intro w hSw; (try dsimp only at hSw); go_simp; first | done | with_reducible rfl)
        try simp only [Act.put, List.getElem_toArray, List.getElem_cons_succ, List.getElem_cons_zero, List.setIfInBounds_toArray, List.set_cons_zero, List.set_cons_succ]
        refine wpAnyH_ready (rs := [10]) (by kernel_rfl) (by simp) ?_
        refine AllReadyH.cons rfl (fun K hK => ?_) AllReadyH.nil
        go_simp
        refine hK.out _ _ Z8 (fun hHeld => ?_)
        clear hK K
        try simp only [Act.put, List.getElem_toArray, List.getElem_cons_succ, List.getElem_cons_zero, List.setIfInBounds_toArray, List.set_cons_zero, List.set_cons_succ]
        refine wpAnyH_done (by kernel_rfl) ?_ _
        go_wp2
        go_ret
        exact ⟨rfl, c3, _, _, HGF.out, by first | (rw [List.map_append, HWT.out]; rfl) | (rw [if_pos rfl, List.map_append, HWT.out]; rfl), HSF.out⟩
      · go_simp
        refine hK.out _ _ Z6 (fun hHeld => ?_)
        clear hK K
        try simp only [Act.put, List.getElem_toArray, List.getElem_cons_succ, List.getElem_cons_zero, List.setIfInBounds_toArray, List.set_cons_zero, List.set_cons_succ]
        refine wpAnyH_ready (rs := [4]) (by kernel_rfl) (by simp) ?_
        refine AllReadyH.cons rfl (fun K hK => ?_) AllReadyH.nil
        go_simp
        refine hK.out _ _ Z6 (fun hHeld => ?_)
        clear hK K
        try simp only [Act.put, List.getElem_toArray, List.getElem_cons_succ, List.getElem_cons_zero, List.setIfInBounds_toArray, List.set_cons_zero, List.set_cons_succ]
        refine wpAnyH_ready (rs := [7]) (by kernel_rfl) (by simp) ?_
        refine AllReadyH.cons rfl (fun K hK => ?_) AllReadyH.nil
        refine step_gappP (by rfl) _ _ elSg (by rfl) B (.slice sa N sc) (.slice (some ⟨u3.heap.size, 0, none⟩) 1 1) (svsC l) (svC X) N 1 N1 HN1.out (by rfl) (by rfl) OG9.out HB9.out HX9.out HXL.out HC9.out (by omega) HL9.out HL10.out ?_
        rw [HXC.out]
        intro sa2 sc2 w9 ho9 hk9
        obtain ⟨R9, ⟨g9, f9⟩, R98, GF, SF⟩ := FIN.out _ _ _ ho9 hk9
        have Z7 : (w9.cell? ⟨bx, 0, none⟩ = some (.int .i64 nn) ∧ w9.cell? ⟨bx, 1, none⟩ = some (.int .i64 (ix : Int)) ∧ w9.cell? ⟨bx, 2, none⟩ = some (.int .i64 (tmm : Int)) ∧ w9.cell? ⟨bx, 3, none⟩ = some (.slice ea en ec) ∧ w9.cell? ⟨bx, 4, none⟩ = some (.slice pa pn pc)) := ⟨R9.cellAt (o := 0) rfl, R9.cellAt (o := 1) rfl, R9.cellAt (o := 2) rfl, R9.cellAt (o := 3) rfl, R9.cellAt (o := 4) rfl⟩
        have Z8 : ((w9.setCell ⟨L, 3, none⟩ (.slice sa2 N1 sc2)).cell? ⟨bx, 0, none⟩ = some (.int .i64 nn) ∧ (w9.setCell ⟨L, 3, none⟩ (.slice sa2 N1 sc2)).cell? ⟨bx, 1, none⟩ = some (.int .i64 (ix : Int)) ∧ (w9.setCell ⟨L, 3, none⟩ (.slice sa2 N1 sc2)).cell? ⟨bx, 2, none⟩ = some (.int .i64 (tmm : Int)) ∧ (w9.setCell ⟨L, 3, none⟩ (.slice sa2 N1 sc2)).cell? ⟨bx, 3, none⟩ = some (.slice ea en ec) ∧ (w9.setCell ⟨L, 3, none⟩ (.slice sa2 N1 sc2)).cell? ⟨bx, 4, none⟩ = some (.slice pa pn pc)) := ⟨R98.cellAt (o := 0) rfl, R98.cellAt (o := 1) rfl, R98.cellAt (o := 2) rfl, R98.cellAt (o := 3) rfl, R98.cellAt (o := 4) rfl⟩
        have HGF := hid GF
        have HSF := hid SF
        clear ho9 hk9 FIN R9 R98 GF SF
        refine hK.out _ _ Z7 (fun hHeld => ?_)
        clear hK K
        try simp only [Act.put, List.getElem_toArray, List.getElem_cons_succ, List.getElem_cons_zero, List.setIfInBounds_toArray, List.set_cons_zero, List.set_cons_succ]
        refine wpAnyH_take (i := 8) (v := ?vv17) rfl (by kernel_rfl) (by kernel_rfl) (by kernel_rfl) (fun _ _ _ h => h) (Or.inl ⟨by rfl, ?hy17⟩) (by assumption) ?rest17
        case hy17 => (intro w hSw; (try dsimp only at hSw); go_simp; first | done | with_reducible rfl)
        try simp only [Act.put, List.getElem_toArray, List.getElem_cons_succ, List.getElem_cons_zero, List.setIfInBounds_toArray, List.set_cons_zero, List.set_cons_succ]
        refine wpAnyH_take (i := 9) (v := ?vv18) rfl (by kernel_rfl) (by kernel_rfl) (by kernel_rfl) (fun _ _ _ h => h) (Or.inl ⟨by rfl, ?hy18⟩) (by assumption) ?rest18
        case hy18 => (intro w hSw; (try dsimp only at hSw); go_simp; first | done | with_reducible rfl)
        try simp only [Act.put, List.getElem_toArray, List.getElem_cons_succ, List.getElem_cons_zero, List.setIfInBounds_toArray, List.set_cons_zero, List.set_cons_succ]
        refine wpAnyH_ready (rs := [10]) (by kernel_rfl) (by simp) ?_
        refine AllReadyH.cons rfl (fun K hK => ?_) AllReadyH.nil
        go_simp
        refine hK.out _ _ Z8 (fun hHeld => ?_)
        clear hK K
        try simp only [Act.put, List.getElem_toArray, List.getElem_cons_succ, List.getElem_cons_zero, List.setIfInBounds_toArray, List.set_cons_zero, List.set_cons_succ]
        refine wpAnyH_done (by kernel_rfl) ?_ _
        go_wp2
        go_ret
        exact ⟨rfl, c3, _, _, HGF.out, by first | (rw [List.map_append, HWT.out]; rfl) | (rw [if_pos rfl, List.map_append, HWT.out]; rfl), HSF.out⟩
    · have hne : (er != 0) = true := by simp [her]
      have FIN : Hid (LgE w c p d2 B L tm vt lost (l.map Sv.sg) u2) := ⟨c2, _, _, S5.out.g, rfl, S5.out.s⟩
      clear S5 R5 RB
      go_wp2
      go_ret
      first | exact ⟨rfl, FIN.out⟩ | (rw [if_neg her]; exact ⟨rfl, FIN.out⟩)
  · obtain ⟨m, hm⟩ : ∃ m, N = m + 1 := ⟨N - 1, by omega⟩
    have hml : m < l.length := by omega
    obtain ⟨y, hy⟩ : ∃ y, l[m]? = some y := ⟨_, List.getElem?_eq_getElem hml⟩
    have LA := hid (LAS.out m (by omega) y hy)
    have hyb := HY.out y (List.mem_of_getElem? hy)
    have g0 : decide ((N : Int) > 0) = true := decide_eq_true (by omega)
    have g00 : decide (N > 0) = true := decide_eq_true (by omega)
    obtain ⟨nn, hnn⟩ : ∃ nn : Int, y.n + 1 = nn := ⟨_, rfl⟩
    have HNN : Hid (nxN (l.map Sv.sg) = nn) := by
      show _ = _
      unfold nxN
      rw [List.getLast?_map, List.getLast?_eq_getElem?, show l.length - 1 = m by omega, hy]
      exact hnn
    have HNB : Hid (1 ≤ nn ∧ nn ≤ 4611686018427387904) := by show _ ∧ _; omega
    have hwn2 : IntKind.i64.wrap nn = nn := by rw [IntKind.wrap_i64]; omega
    have hwn3 : wrap64 nn = nn := IntWalk.wrap64_in _ (by omega)
    clear hN hm hml hy hyb hz LAS hl
    unfold sgV at LA
    obtain ⟨yn, yi, yt, yve, yvp, yes, yps⟩ := y
    simp only at LA hnn
    have hfd : ∀ W : World, (Instr.field 126 (.agg #[.int .i64 yn, .int .i64 yi, .int .i64 yt, yve, yvp]) 0).run Tryz.prog W = .ok (.int .i64 yn) W := fun _ => by kernel_rfl
    by_cases hbig : 4611686018427387903 < nn ∨ 1099511627776 < ix
    · have HE : Hid (bgS d (l.map Sv.sg) ix tmm q = (d, l.map Sv.sg, 22)) := by show _ = _; unfold bgS; rw [HNN.out, if_pos hbig]
      rw [HE.out]
      by_cases hb1 : 4611686018427387903 < nn
      · have g1 : decide (nn > 4611686018427387903) = true := decide_eq_true hb1
        clear hbig hb1 HE
        go_enter Tryz.func124, Tryz.ntmps124
        go_wp2_with fail
        refine LA.out.mono ?_
        rintro e wA ⟨rfl, bA⟩
        have HAB := hid bA
        have GA := hid (H1.out.keep1 (bA.keep (fun _ => False)))
        have SA := hid (HS1.out.keep1 (bA.keep (fun _ => False)))
        clear LA bA H1 HS1 c3l
        have FIN : Hid (LgE w c p d B L tm vt lost (l.map Sv.sg) wA) := ⟨c1, _, _, GA.out, rfl, SA.out⟩
        clear BE WT0 WR0 HNN GA SA
        go_wp2
        go_ret
        exact ⟨rfl, FIN.out⟩
      · have g1 : decide (nn > 4611686018427387903) = false := decide_eq_false hb1
        have g2 : decide ((ix : Int) > 1099511627776) = true := decide_eq_true (by rcases hbig with h | h; exact absurd h hb1; omega)
        clear hbig hb1 HE
        go_enter Tryz.func124, Tryz.ntmps124
        go_wp2_with fail
        refine LA.out.mono ?_
        rintro e wA ⟨rfl, bA⟩
        have HAB := hid bA
        have GA := hid (H1.out.keep1 (bA.keep (fun _ => False)))
        have SA := hid (HS1.out.keep1 (bA.keep (fun _ => False)))
        clear LA bA H1 HS1 c3l
        have FIN : Hid (LgE w c p d B L tm vt lost (l.map Sv.sg) wA) := ⟨c1, _, _, GA.out, rfl, SA.out⟩
        clear BE WT0 WR0 HNN GA SA
        go_wp2
        go_ret
        exact ⟨rfl, FIN.out⟩
    have g1 : decide (nn > 4611686018427387903) = false := decide_eq_false (fun h => hbig (.inl h))
    have g2 : decide ((ix : Int) > 1099511627776) = false := decide_eq_false (fun h => hbig (.inr (by omega)))
    have HE : Hid (bgS d (l.map Sv.sg) ix tmm q = ((wrD d (fnB nn) (bsB ix tmm ++ txW q)).1, if (wrD d (fnB nn) (bsB ix tmm ++ txW q)).2 = 0 then l.map Sv.sg ++ [bgG nn ix tmm q] else l.map Sv.sg, (wrD d (fnB nn) (bsB ix tmm ++ txW q)).2)) := by show _ = _; unfold bgS; rw [HNN.out, if_neg hbig]
    rw [HE.out]
    have WR := hid (WR0.out nn (by have := HNB.out; omega) (by have := HNB.out; omega))
    generalize wrD d (fnB nn) (bsB ix tmm ++ txW q) = A at *
    obtain ⟨d2, er⟩ := A
    simp only at WR ⊢
    have FI : Hid (∀ (ve vp : Value) W, GV W → Calls Tryz.prog 123 #[.agg #[.int .i64 nn, .int .i64 (ix : Int), .int .i64 (tmm : Int), ve, vp]] W fun e w' => e = .returned (.string ⟨(fnB nn).toArray⟩) ∧ Below W.heap.size W w') := fun ve vp W hG => sgfile_any nn ix tmm ve vp W (by have := HNB.out; omega) (by have := HNB.out; omega) hG
    clear hbig HE WR0 HNN
    go_enter Tryz.func124, Tryz.ntmps124
    go_wp2_with fail
    refine LA.out.mono ?_
    rintro e wA ⟨rfl, bA⟩
    have HAB := hid bA
    have GA := hid (H1.out.keep1 (bA.keep (fun _ => False)))
    have SA := hid (HS1.out.keep1 (bA.keep (fun _ => False)))
    clear LA bA H1 HS1 c3l
    go_wp2_with fail
    refine (BE.out nn wA).mono ?_
    rintro e w3 ⟨bp, rfl, oi, b3⟩
    have K3 := hid b3
    unfold sgV
    have X3 : Hid (SvI (w3.alloc (.cells #[.int .i64 nn, .int .i64 (ix : Int), .int .i64 (tmm : Int), .slice none 0 0, .slice (some ⟨bp, 0, none⟩) 1 1] 126)) B ⟨nn, ix, tmm, .slice none 0 0, .slice (some ⟨bp, 0, none⟩) 1 1, [], [((bsB ix tmm).length : Int)]⟩) := ⟨.inl ⟨rfl, .inl ⟨rfl, rfl⟩⟩, (ORow.next (.inl oi) (below_al (Below.refl _ _) _)).base (Nat.le_trans HHB.out SA.out.kp.size)⟩
    have HBP : Hid (w.heap.size ≤ bp ∧ bp < w3.heap.size) := ⟨Nat.le_trans SA.out.kp.size (ownsRow_ge oi rfl), ownsRow_lt oi rfl⟩
    have B3 : Hid (Below wA.heap.size wA (w3.alloc (.cells #[.int .i64 nn, .int .i64 (ix : Int), .int .i64 (tmm : Int), .slice none 0 0, .slice (some ⟨bp, 0, none⟩) 1 1] 126))) := below_al b3 _
    have R3 := hid (srow w3 [.int .i64 nn, .int .i64 (ix : Int), .int .i64 (tmm : Int), .slice none 0 0, .slice (some ⟨bp, 0, none⟩) 1 1] 126)
    have HBPA : Hid (wA.heap.size ≤ bp) := ownsRow_ge oi rfl
    have WT := hid (WT0.out nn bp wA _ X3.out HAB.out B3.out HBP.out.1)
    unfold sgV at WT
    have x0 := R3.out.cellAt (o := 0) rfl
    have x1 := R3.out.cellAt (o := 1) rfl
    have x2 := R3.out.cellAt (o := 2) rfl
    have x3 := R3.out.cellAt (o := 3) rfl
    have x4 := R3.out.cellAt (o := 4) rfl
    clear oi b3 BE WT0 X3
    go_wp2_with fail
    refine WT.out.mono ?_
    rintro e w4 ⟨ve, vp, rfl, we⟩
    obtain ⟨ea, ec, hve⟩ := we.sv.oe.form
    obtain ⟨pa, pc, hvp⟩ := we.sv.oi.form
    simp only at hve hvp
    subst hve hvp
    have SVX := hid we.sv
    generalize HX : (⟨nn, ix, tmm, .slice ea ([] ++ q).length ec, .slice pa ([((bsB ix tmm).length : Int)] ++ psX (Sv.sg ⟨nn, ix, tmm, .slice none 0 0, .slice (some ⟨bp, 0, none⟩) 1 1, [], [((bsB ix tmm).length : Int)]⟩).sz q).length pc, [] ++ q, [((bsB ix tmm).length : Int)] ++ psX (Sv.sg ⟨nn, ix, tmm, .slice none 0 0, .slice (some ⟨bp, 0, none⟩) 1 1, [], [((bsB ix tmm).length : Int)]⟩).sz q⟩ : Sv) = X at *
    have HWT : Hid (bgG nn ix tmm q = X.sg) := by subst HX; rfl
    have HXC : Hid (svC X = [.int .i64 nn, .int .i64 (ix : Int), .int .i64 (tmm : Int), .slice ea ([] ++ q).length ec, .slice pa ([((bsB ix tmm).length : Int)] ++ psX (Sv.sg ⟨nn, ix, tmm, .slice none 0 0, .slice (some ⟨bp, 0, none⟩) 1 1, [], [((bsB ix tmm).length : Int)]⟩).sz q).length pc]) := by subst HX; rfl
    have HXV : Hid (X.ve = .slice ea ([] ++ q).length ec ∧ X.vp = .slice pa ([((bsB ix tmm).length : Int)] ++ psX (Sv.sg ⟨nn, ix, tmm, .slice none 0 0, .slice (some ⟨bp, 0, none⟩) 1 1, [], [((bsB ix tmm).length : Int)]⟩).sz q).length pc) := by subst HX; exact ⟨rfl, rfl⟩
    have HXO : Hid (∀ j, X.ve.ownBlock = some j ∨ X.vp.ownBlock = some j → w.heap.size ≤ j) := fun j hj => by
      have hs : w.heap.size ≤ w3.heap.size := Nat.le_trans SA.out.kp.size K3.out.size
      have ha : (w3.alloc (.cells #[.int .i64 nn, .int .i64 (ix : Int), .int .i64 (tmm : Int), .slice none 0 0, .slice (some ⟨bp, 0, none⟩) 1 1] 126)).heap.size = w3.heap.size + 1 := by simp
      rw [HXV.out.1, HXV.out.2] at hj
      rcases hj with hj | hj
      · rcases we.le j hj with e | e
        · cases e
        · omega
      · rcases we.lp j hj with e | e
        · have e2 : bp = j := by simpa [Value.ownBlock] using e
          have := HBP.out; omega
        · omega
    have HSVX := SVX
    have WE := hid we
    clear HX WT we SVX
    simp only at *
    generalize ([] ++ q).length = en at *
    generalize ([((bsB ix tmm).length : Int)] ++ psX (Sv.sg ⟨nn, ix, tmm, .slice none 0 0, .slice (some ⟨bp, 0, none⟩) 1 1, [], [((bsB ix tmm).length : Int)]⟩).sz q).length = pn at *
    have R4 := R3.out.keep WE.out.kp (fun e => by
      rcases e with e | e
      · cases e
      · have e2 : bp = w3.heap.size := by simpa [Value.ownBlock] using e
        have := HBP.out; omega)
    have d0 := R4.cellAt (o := 0) rfl
    have d1 := R4.cellAt (o := 1) rfl
    have d2c := R4.cellAt (o := 2) rfl
    have d3 := R4.cellAt (o := 3) rfl
    have d4 := R4.cellAt (o := 4) rfl
    have f0 : w4.frozen? ⟨w3.heap.size, 0, none⟩ = false := R4.frozen
    have f1 : w4.frozen? ⟨w3.heap.size, 1, none⟩ = false := R4.frozen
    have f2 : w4.frozen? ⟨w3.heap.size, 2, none⟩ = false := R4.frozen
    have f3 : w4.frozen? ⟨w3.heap.size, 3, none⟩ = false := R4.frozen
    have f4 : w4.frozen? ⟨w3.heap.size, 4, none⟩ = false := R4.frozen
    have FV := hid (five R4 (.int .i64 nn) (.int .i64 (ix : Int)) (.int .i64 (tmm : Int)) (.slice ea en ec) (.slice pa pn pc))
    have S3p : Hid (FlS w c p d B L tm vt lost (.slice sa N sc) l w3.heap.size X c1 (((((w4.setCell ⟨w3.heap.size, 0, none⟩ (.int .i64 nn)).setCell ⟨w3.heap.size, 1, none⟩ (.int .i64 (ix : Int))).setCell ⟨w3.heap.size, 2, none⟩ (.int .i64 (tmm : Int))).setCell ⟨w3.heap.size, 3, none⟩ (.slice ea en ec)).setCell ⟨w3.heap.size, 4, none⟩ (.slice pa pn pc))) := by
      have hs : wA.heap.size ≤ w3.heap.size := K3.out.size
      have k34 : Keep (fun _ => False) wA (((((w4.setCell ⟨w3.heap.size, 0, none⟩ (.int .i64 nn)).setCell ⟨w3.heap.size, 1, none⟩ (.int .i64 (ix : Int))).setCell ⟨w3.heap.size, 2, none⟩ (.int .i64 (tmm : Int))).setCell ⟨w3.heap.size, 3, none⟩ (.slice ea en ec)).setCell ⟨w3.heap.size, 4, none⟩ (.slice pa pn pc)) := ((B3.out.keep (fun _ => False)).then WE.out.kp (fun j hj e => by
        rcases e with e | e
        · cases e
        · have e2 : bp = j := by simpa [Value.ownBlock] using e
          have := HBPA.out; omega)).then FV.out.2 (fun j hj e => by omega)
      have xs := HSVX.out.keep FV.out.2 (HSVX.out.not_box R4)
      refine ⟨GA.out.keep1 k34, SA.out.keep1 k34, by rw [HXC.out]; exact FV.out.1, xs, HN1C.out _ (Nat.le_trans SA.out.kp.size hs), fun j hj => HN1C.out j (HXO.out j hj)⟩
    have HBXL : Hid (w.heap.size ≤ w3.heap.size) := Nat.le_trans SA.out.kp.size K3.out.size
    have HVB : Hid (∀ j, (Value.slice sa N sc).ownBlock = some j → ¬ j = w3.heap.size) := fun j hj e => by have := HVW.out j hj; have := HBXL.out; omega
    have XAP : Hid (∀ a ∈ l, (∀ g, a.ve.ownBlock = some g → ¬ X.ve.ownBlock = some g) ∧ ∀ g, a.vp.ownBlock = some g → ¬ X.vp.ownBlock = some g) := fun a ha => ⟨fun g hg e => by have := HLW.out a ha g (.inl hg); have := HXO.out g (.inl e); omega, fun g hg e => by have := HLW.out a ha g (.inr hg); have := HXO.out g (.inr e); omega⟩
    have RB : Hid (∀ c2 d W, FlS w c p d B L tm vt lost (.slice sa N sc) l w3.heap.size X c2 W → RowIs W w3.heap.size [.int .i64 nn, .int .i64 (ix : Int), .int .i64 (tmm : Int), .slice ea en ec, .slice pa pn pc] 126) := fun c2 d W h => by have := h.b; rw [HXC.out] at this; exact this
    clear R4 WE GA SA K3 B3 R3 HBP x0 x1 x2 x3 x4
    go_wp2_with fail
    generalize ((((w4.setCell ⟨w3.heap.size, 0, none⟩ (.int .i64 nn)).setCell ⟨w3.heap.size, 1, none⟩ (.int .i64 (ix : Int))).setCell ⟨w3.heap.size, 2, none⟩ (.int .i64 (tmm : Int))).setCell ⟨w3.heap.size, 3, none⟩ (.slice ea en ec)).setCell ⟨w3.heap.size, 4, none⟩ (.slice pa pn pc) = W5 at *
    generalize w3.heap.size = bx at *
    clear d0 d1 d2c d3 d4 f0 f1 f2 f3 f4 FV
    have S3 := hid (S3p.out.next (Below.refl _ _).drew)
    clear S3p
    have R3 := hid (RB.out _ _ _ S3.out)
    have Z0 : (W5.drew.cell? ⟨L, 0, none⟩ = some (.pointer (some ⟨p, 0, none⟩)) ∧ W5.drew.cell? ⟨bx, 0, none⟩ = some (.int .i64 nn) ∧ W5.drew.cell? ⟨bx, 1, none⟩ = some (.int .i64 (ix : Int)) ∧ W5.drew.cell? ⟨bx, 2, none⟩ = some (.int .i64 (tmm : Int)) ∧ W5.drew.cell? ⟨bx, 3, none⟩ = some (.slice ea en ec) ∧ W5.drew.cell? ⟨bx, 4, none⟩ = some (.slice pa pn pc)) := ⟨S3.out.g.lg.lg.bx.cellAt (o := 0) rfl, R3.out.cellAt (o := 0) rfl, R3.out.cellAt (o := 1) rfl, R3.out.cellAt (o := 2) rfl, R3.out.cellAt (o := 3) rfl, R3.out.cellAt (o := 4) rfl⟩
    refine wp_region_held_drew (S := fun W => W.cell? ⟨L, 0, none⟩ = some (.pointer (some ⟨p, 0, none⟩)) ∧ W.cell? ⟨bx, 0, none⟩ = some (.int .i64 nn) ∧ W.cell? ⟨bx, 1, none⟩ = some (.int .i64 (ix : Int)) ∧ W.cell? ⟨bx, 2, none⟩ = some (.int .i64 (tmm : Int)) ∧ W.cell? ⟨bx, 3, none⟩ = some (.slice ea en ec) ∧ W.cell? ⟨bx, 4, none⟩ = some (.slice pa pn pc)) (by kernel_rfl) Z0 (fun hHeld => ?_)
    generalize W5.drew = u0 at *
    refine wpAnyH_take (i := 0) (v := ?vv19) rfl (by kernel_rfl) (by kernel_rfl) (by kernel_rfl) (fun _ _ _ h => h) (Or.inl ⟨by rfl, ?hy19⟩) (by assumption) ?rest19
    case hy19 => (intro w hSw; (try dsimp only at hSw); go_simp; first | done | with_reducible rfl)
    try simp only [Act.put, List.getElem_toArray, List.getElem_cons_succ, List.getElem_cons_zero, List.setIfInBounds_toArray, List.set_cons_zero, List.set_cons_succ]
    refine wpAnyH_take (i := 1) (v := ?vv20) rfl (by kernel_rfl) (by kernel_rfl) (by kernel_rfl) (fun _ _ _ h => h) (Or.inl ⟨by rfl, ?hy20⟩) (by assumption) ?rest20
    case hy20 => (intro w hSw; (try dsimp only at hSw); go_simp; first | done | with_reducible rfl)
    try simp only [Act.put, List.getElem_toArray, List.getElem_cons_succ, List.getElem_cons_zero, List.setIfInBounds_toArray, List.set_cons_zero, List.set_cons_succ]
    refine wpAnyH_take (i := 2) (v := ?vv21) rfl (by kernel_rfl) (by kernel_rfl) (by kernel_rfl) (fun _ _ _ h => h) (Or.inl ⟨by rfl, ?hy21⟩) (by assumption) ?rest21
    case hy21 => (intro w hSw; (try dsimp only at hSw); go_simp; first | done | with_reducible rfl)
    try simp only [Act.put, List.getElem_toArray, List.getElem_cons_succ, List.getElem_cons_zero, List.setIfInBounds_toArray, List.set_cons_zero, List.set_cons_succ]
    refine wpAnyH_take (i := 3) (v := ?vv22) rfl (by kernel_rfl) (by kernel_rfl) (by kernel_rfl) (fun _ _ _ h => h) (Or.inl ⟨by rfl, ?hy22⟩) (by assumption) ?rest22
    case hy22 => (intro w hSw; (try dsimp only at hSw); go_simp; first | done | with_reducible rfl)
    try simp only [Act.put, List.getElem_toArray, List.getElem_cons_succ, List.getElem_cons_zero, List.setIfInBounds_toArray, List.set_cons_zero, List.set_cons_succ]
    refine wpAnyH_take (i := 4) (v := ?vv23) rfl (by kernel_rfl) (by kernel_rfl) (by kernel_rfl) (fun _ _ _ h => h) (Or.inl ⟨by rfl, ?hy23⟩) (by assumption) ?rest23
    case hy23 => (intro w hSw; (try dsimp only at hSw); go_simp; first | done | with_reducible rfl)
    try simp only [Act.put, List.getElem_toArray, List.getElem_cons_succ, List.getElem_cons_zero, List.setIfInBounds_toArray, List.set_cons_zero, List.set_cons_succ]
    refine wpAnyH_take (i := 6) (v := ?vv24) rfl (by kernel_rfl) (by kernel_rfl) (by kernel_rfl) (fun _ _ _ h => h) (Or.inl ⟨by rfl, ?hy24⟩) (by assumption) ?rest24
    case hy24 => (intro w hSw; (try dsimp only at hSw); go_simp; first | done | with_reducible rfl)
    try simp only [Act.put, List.getElem_toArray, List.getElem_cons_succ, List.getElem_cons_zero, List.setIfInBounds_toArray, List.set_cons_zero, List.set_cons_succ]
    refine wpAnyH_take (i := 7) (v := ?vv25) rfl (by kernel_rfl) (by kernel_rfl) (by kernel_rfl) (fun _ _ _ h => h) (Or.inl ⟨by rfl, ?hy25⟩) (by assumption) ?rest25
    case hy25 => (intro w hSw; (try dsimp only at hSw); go_simp; first | done | with_reducible rfl)
    try simp only [Act.put, List.getElem_toArray, List.getElem_cons_succ, List.getElem_cons_zero, List.setIfInBounds_toArray, List.set_cons_zero, List.set_cons_succ]
    refine wpAnyH_take (i := 8) (v := ?vv26) rfl (by kernel_rfl) (by kernel_rfl) (by kernel_rfl) (fun _ _ _ h => h) (Or.inl ⟨by rfl, ?hy26⟩) (by assumption) ?rest26
    case hy26 => (intro w hSw; (try dsimp only at hSw); go_simp; first | done | with_reducible rfl)
    try simp only [Act.put, List.getElem_toArray, List.getElem_cons_succ, List.getElem_cons_zero, List.setIfInBounds_toArray, List.set_cons_zero, List.set_cons_succ]
    refine wpAnyH_ready (rs := [5]) (by kernel_rfl) (by simp) ?_
    refine AllReadyH.cons rfl (fun K hK => ?_) AllReadyH.nil
    go_simp
    refine (FI.out _ _ _ S3.out.g.gv).mono ?_
    rintro e u1 ⟨rfl, b1⟩
    have S4 := hid (S3.out.next b1)
    have R4 := hid (RB.out _ _ _ S4.out)
    have Z1 : (u1.cell? ⟨L, 0, none⟩ = some (.pointer (some ⟨p, 0, none⟩)) ∧ u1.cell? ⟨bx, 0, none⟩ = some (.int .i64 nn) ∧ u1.cell? ⟨bx, 1, none⟩ = some (.int .i64 (ix : Int)) ∧ u1.cell? ⟨bx, 2, none⟩ = some (.int .i64 (tmm : Int)) ∧ u1.cell? ⟨bx, 3, none⟩ = some (.slice ea en ec) ∧ u1.cell? ⟨bx, 4, none⟩ = some (.slice pa pn pc)) := ⟨S4.out.g.lg.lg.bx.cellAt (o := 0) rfl, R4.out.cellAt (o := 0) rfl, R4.out.cellAt (o := 1) rfl, R4.out.cellAt (o := 2) rfl, R4.out.cellAt (o := 3) rfl, R4.out.cellAt (o := 4) rfl⟩
    clear b1 S3 R3 Z0 hHeld
    go_wp2_with fail
    refine hK.out _ _ Z1 (fun hHeld => ?_)
    clear hK K
    try simp only [Act.put, List.getElem_toArray, List.getElem_cons_succ, List.getElem_cons_zero, List.setIfInBounds_toArray, List.set_cons_zero, List.set_cons_succ]
    refine wpAnyH_ready (rs := [9]) (by kernel_rfl) (by simp) ?_
    refine AllReadyH.cons rfl (fun K hK => ?_) AllReadyH.nil
    go_simp
    refine (WR.out _ _ S4.out.g.lg.dk).mono ?_
    rintro e u2 ⟨rfl, hL⟩
    obtain ⟨c2, s5⟩ := S4.out.left hL
    have S5 := hid s5
    have R5 := hid (RB.out _ _ _ S5.out)
    have Z2 : (u2.cell? ⟨L, 0, none⟩ = some (.pointer (some ⟨p, 0, none⟩)) ∧ u2.cell? ⟨bx, 0, none⟩ = some (.int .i64 nn) ∧ u2.cell? ⟨bx, 1, none⟩ = some (.int .i64 (ix : Int)) ∧ u2.cell? ⟨bx, 2, none⟩ = some (.int .i64 (tmm : Int)) ∧ u2.cell? ⟨bx, 3, none⟩ = some (.slice ea en ec) ∧ u2.cell? ⟨bx, 4, none⟩ = some (.slice pa pn pc)) := ⟨S5.out.g.lg.lg.bx.cellAt (o := 0) rfl, R5.out.cellAt (o := 0) rfl, R5.out.cellAt (o := 1) rfl, R5.out.cellAt (o := 2) rfl, R5.out.cellAt (o := 3) rfl, R5.out.cellAt (o := 4) rfl⟩
    clear s5 hL WR S4 R4 Z1 hHeld
    go_wp2_with fail
    refine hK.out _ _ Z2 (fun hHeld => ?_)
    clear hK K
    try simp only [Act.put, List.getElem_toArray, List.getElem_cons_succ, List.getElem_cons_zero, List.setIfInBounds_toArray, List.set_cons_zero, List.set_cons_succ]
    refine wpAnyH_take (i := 10) (v := ?vv27) rfl (by kernel_rfl) (by kernel_rfl) (by kernel_rfl) (fun _ _ _ h => h) (Or.inl ⟨by rfl, ?hy27⟩) (by assumption) ?rest27
    case hy27 => (intro w hSw; (try dsimp only at hSw); go_simp; first | done | with_reducible rfl)
    try simp only [Act.put, List.getElem_toArray, List.getElem_cons_succ, List.getElem_cons_zero, List.setIfInBounds_toArray, List.set_cons_zero, List.set_cons_succ]
    refine wpAnyH_done (by kernel_rfl) ?_ _
    clear Z2 hHeld FI
    by_cases her : er = 0
    · subst her
      go_wp2_with fail
      obtain ⟨c3, s6, n6⟩ := S5.out.fresh (Below.refl _ _).drew
      have S6 := hid s6
      have HN6 : Hid (∀ j, u2.drew.heap.size ≤ j → c3 j = 8) := n6
      have R6 := hid (RB.out _ _ _ S6.out)
      have Z5 : (u2.drew.cell? ⟨bx, 0, none⟩ = some (.int .i64 nn) ∧ u2.drew.cell? ⟨bx, 1, none⟩ = some (.int .i64 (ix : Int)) ∧ u2.drew.cell? ⟨bx, 2, none⟩ = some (.int .i64 (tmm : Int)) ∧ u2.drew.cell? ⟨bx, 3, none⟩ = some (.slice ea en ec) ∧ u2.drew.cell? ⟨bx, 4, none⟩ = some (.slice pa pn pc)) := ⟨R6.out.cellAt (o := 0) rfl, R6.out.cellAt (o := 1) rfl, R6.out.cellAt (o := 2) rfl, R6.out.cellAt (o := 3) rfl, R6.out.cellAt (o := 4) rfl⟩
      have HB9 : Hid (B ≤ (u2.drew.alloc (.cells #[.int .i64 nn, .int .i64 (ix : Int), .int .i64 (tmm : Int), .slice ea en ec, .slice pa pn pc] 126)).heap.size) := by have h1 := S6.out.g.hB; show _ ≤ _; simp; exact Nat.le_succ_of_le h1
      have HXL : Hid ((svC X).length = 1 * 5) := by show _ = _; rw [HXC.out]; rfl
      clear S5 R5 s6 n6 R6
      refine wp_region_held_drew (S := fun W => W.cell? ⟨bx, 0, none⟩ = some (.int .i64 nn) ∧ W.cell? ⟨bx, 1, none⟩ = some (.int .i64 (ix : Int)) ∧ W.cell? ⟨bx, 2, none⟩ = some (.int .i64 (tmm : Int)) ∧ W.cell? ⟨bx, 3, none⟩ = some (.slice ea en ec) ∧ W.cell? ⟨bx, 4, none⟩ = some (.slice pa pn pc)) (by kernel_rfl) Z5 (fun hHeld => ?_)
      generalize u2.drew = u3 at *
      have x3c := S6.out.g.lg.lg.bx.cellAt (o := 3) rfl
      have S7 := hid (S6.out.next (below_al (Below.refl _ _) (.cells #[.int .i64 nn, .int .i64 (ix : Int), .int .i64 (tmm : Int), .slice ea en ec, .slice pa pn pc] 126)))
      have y3c := S7.out.g.lg.lg.bx.cellAt (o := 3) rfl
      have R7 := hid (RB.out _ _ _ S7.out)
      have Z6 : ((u3.alloc (.cells #[.int .i64 nn, .int .i64 (ix : Int), .int .i64 (tmm : Int), .slice ea en ec, .slice pa pn pc] 126)).cell? ⟨bx, 0, none⟩ = some (.int .i64 nn) ∧ (u3.alloc (.cells #[.int .i64 nn, .int .i64 (ix : Int), .int .i64 (tmm : Int), .slice ea en ec, .slice pa pn pc] 126)).cell? ⟨bx, 1, none⟩ = some (.int .i64 (ix : Int)) ∧ (u3.alloc (.cells #[.int .i64 nn, .int .i64 (ix : Int), .int .i64 (tmm : Int), .slice ea en ec, .slice pa pn pc] 126)).cell? ⟨bx, 2, none⟩ = some (.int .i64 (tmm : Int)) ∧ (u3.alloc (.cells #[.int .i64 nn, .int .i64 (ix : Int), .int .i64 (tmm : Int), .slice ea en ec, .slice pa pn pc] 126)).cell? ⟨bx, 3, none⟩ = some (.slice ea en ec) ∧ (u3.alloc (.cells #[.int .i64 nn, .int .i64 (ix : Int), .int .i64 (tmm : Int), .slice ea en ec, .slice pa pn pc] 126)).cell? ⟨bx, 4, none⟩ = some (.slice pa pn pc)) := ⟨R7.out.cellAt (o := 0) rfl, R7.out.cellAt (o := 1) rfl, R7.out.cellAt (o := 2) rfl, R7.out.cellAt (o := 3) rfl, R7.out.cellAt (o := 4) rfl⟩
      have OG9 := hid S7.out.g.lg.lg.sg.row
      rw [HLN.out] at OG9
      have HX9 : Hid (RowC (u3.alloc (.cells #[.int .i64 nn, .int .i64 (ix : Int), .int .i64 (tmm : Int), .slice ea en ec, .slice pa pn pc] 126)) (.slice (some ⟨u3.heap.size, 0, none⟩) 1 1) 1 (svC X)) := by have h9 := own_made u3 (svC X) 126 5 1 0 (Nat.zero_le _) rfl (by omega); rw [HXC.out] at h9 ⊢; exact RowC.own h9
      have HC9 : Hid (∀ u ∈ svC X, u.oneCell' = true) := by show ∀ u ∈ svC X, _; rw [HXC.out]; intro u hu; simp at hu; rcases hu with rfl | rfl | rfl | rfl | rfl <;> rfl
      have FIN := hid (S6.out.snoc HN6.out XAP.out HVB.out N N1 HLN.out HN1.out)
      rw [HXC.out] at FIN
      clear S6 S7 R7
      refine wpAnyH_take (i := 0) (v := ?vv28) rfl (by kernel_rfl) (by kernel_rfl) (by kernel_rfl) (fun _ _ _ h => h) (Or.inl ⟨by rfl, ?hy28⟩) (by assumption) ?rest28
      case hy28 => (intro w hSw; (try dsimp only at hSw); go_simp; first | done | with_reducible rfl)
      try simp only [Act.put, List.getElem_toArray, List.getElem_cons_succ, List.getElem_cons_zero, List.setIfInBounds_toArray, List.set_cons_zero, List.set_cons_succ]
      refine wpAnyH_take (i := 1) (v := ?vv29) rfl (by kernel_rfl) (by kernel_rfl) (by kernel_rfl) (fun _ _ _ h => h) (Or.inl ⟨by rfl, ?hy29⟩) (by assumption) ?rest29
      case hy29 => (intro w hSw; (try dsimp only at hSw); go_simp; first | done | with_reducible rfl)
      try simp only [Act.put, List.getElem_toArray, List.getElem_cons_succ, List.getElem_cons_zero, List.setIfInBounds_toArray, List.set_cons_zero, List.set_cons_succ]
      refine wpAnyH_take (i := 2) (v := ?vv30) rfl (by kernel_rfl) (by kernel_rfl) (by kernel_rfl) (fun _ _ _ h => h) (Or.inl ⟨by rfl, ?hy30⟩) (by assumption) ?rest30
      case hy30 => (intro w hSw; (try dsimp only at hSw); go_simp; first | done | with_reducible rfl)
      try simp only [Act.put, List.getElem_toArray, List.getElem_cons_succ, List.getElem_cons_zero, List.setIfInBounds_toArray, List.set_cons_zero, List.set_cons_succ]
      refine wpAnyH_take (i := 3) (v := ?vv31) rfl (by kernel_rfl) (by kernel_rfl) (by kernel_rfl) (fun _ _ _ h => h) (Or.inl ⟨by rfl, ?hy31⟩) (by assumption) ?rest31
      case hy31 => (intro w hSw; (try dsimp only at hSw); go_simp; first | done | with_reducible rfl)
      try simp only [Act.put, List.getElem_toArray, List.getElem_cons_succ, List.getElem_cons_zero, List.setIfInBounds_toArray, List.set_cons_zero, List.set_cons_succ]
      refine wpAnyH_take (i := 5) (v := ?vv32) rfl (by kernel_rfl) (by kernel_rfl) (by kernel_rfl) (fun _ _ _ h => h) (Or.inl ⟨by rfl, ?hy32⟩) (by assumption) ?rest32
      case hy32 => (intro w hSw; (try dsimp only at hSw); go_simp; first | done | with_reducible rfl)
      try simp only [Act.put, List.getElem_toArray, List.getElem_cons_succ, List.getElem_cons_zero, List.setIfInBounds_toArray, List.set_cons_zero, List.set_cons_succ]
      refine wpAnyH_ready (rs := [4, 6]) (by kernel_rfl) (by simp) ?_
      refine AllReadyH.cons rfl (fun K hK => ?_) (AllReadyH.cons rfl (fun K hK => ?_) AllReadyH.nil)
      · go_simp
        refine hK.out _ _ Z5 (fun hHeld => ?_)
        clear hK K
        try simp only [Act.put, List.getElem_toArray, List.getElem_cons_succ, List.getElem_cons_zero, List.setIfInBounds_toArray, List.set_cons_zero, List.set_cons_succ]
        refine wpAnyH_ready (rs := [6]) (by kernel_rfl) (by simp) ?_
        refine AllReadyH.cons rfl (fun K hK => ?_) AllReadyH.nil
        go_simp
        refine hK.out _ _ Z6 (fun hHeld => ?_)
        clear hK K
        try simp only [Act.put, List.getElem_toArray, List.getElem_cons_succ, List.getElem_cons_zero, List.setIfInBounds_toArray, List.set_cons_zero, List.set_cons_succ]
        refine wpAnyH_ready (rs := [7]) (by kernel_rfl) (by simp) ?_
        refine AllReadyH.cons rfl (fun K hK => ?_) AllReadyH.nil
        refine step_gappP (by rfl) _ _ elSg (by rfl) B (.slice sa N sc) (.slice (some ⟨u3.heap.size, 0, none⟩) 1 1) (svsC l) (svC X) N 1 N1 HN1.out (by rfl) (by rfl) OG9.out HB9.out HX9.out HXL.out HC9.out (by omega) HL9.out HL10.out ?_
        rw [HXC.out]
        intro sa2 sc2 w9 ho9 hk9
        obtain ⟨R9, ⟨g9, f9⟩, R98, GF, SF⟩ := FIN.out _ _ _ ho9 hk9
        have Z7 : (w9.cell? ⟨bx, 0, none⟩ = some (.int .i64 nn) ∧ w9.cell? ⟨bx, 1, none⟩ = some (.int .i64 (ix : Int)) ∧ w9.cell? ⟨bx, 2, none⟩ = some (.int .i64 (tmm : Int)) ∧ w9.cell? ⟨bx, 3, none⟩ = some (.slice ea en ec) ∧ w9.cell? ⟨bx, 4, none⟩ = some (.slice pa pn pc)) := ⟨R9.cellAt (o := 0) rfl, R9.cellAt (o := 1) rfl, R9.cellAt (o := 2) rfl, R9.cellAt (o := 3) rfl, R9.cellAt (o := 4) rfl⟩
        have Z8 : ((w9.setCell ⟨L, 3, none⟩ (.slice sa2 N1 sc2)).cell? ⟨bx, 0, none⟩ = some (.int .i64 nn) ∧ (w9.setCell ⟨L, 3, none⟩ (.slice sa2 N1 sc2)).cell? ⟨bx, 1, none⟩ = some (.int .i64 (ix : Int)) ∧ (w9.setCell ⟨L, 3, none⟩ (.slice sa2 N1 sc2)).cell? ⟨bx, 2, none⟩ = some (.int .i64 (tmm : Int)) ∧ (w9.setCell ⟨L, 3, none⟩ (.slice sa2 N1 sc2)).cell? ⟨bx, 3, none⟩ = some (.slice ea en ec) ∧ (w9.setCell ⟨L, 3, none⟩ (.slice sa2 N1 sc2)).cell? ⟨bx, 4, none⟩ = some (.slice pa pn pc)) := ⟨R98.cellAt (o := 0) rfl, R98.cellAt (o := 1) rfl, R98.cellAt (o := 2) rfl, R98.cellAt (o := 3) rfl, R98.cellAt (o := 4) rfl⟩
        have HGF := hid GF
        have HSF := hid SF
        clear ho9 hk9 FIN R9 R98 GF SF
        refine hK.out _ _ Z7 (fun hHeld => ?_)
        clear hK K
        try simp only [Act.put, List.getElem_toArray, List.getElem_cons_succ, List.getElem_cons_zero, List.setIfInBounds_toArray, List.set_cons_zero, List.set_cons_succ]
        refine wpAnyH_take (i := 8) (v := ?vv33) rfl (by kernel_rfl) (by kernel_rfl) (by kernel_rfl) (fun _ _ _ h => h) (Or.inl ⟨by rfl, ?hy33⟩) (by assumption) ?rest33
        case hy33 => (intro w hSw; (try dsimp only at hSw); go_simp; first | done | with_reducible rfl)
        try simp only [Act.put, List.getElem_toArray, List.getElem_cons_succ, List.getElem_cons_zero, List.setIfInBounds_toArray, List.set_cons_zero, List.set_cons_succ]
        refine wpAnyH_take (i := 9) (v := ?vv34) rfl (by kernel_rfl) (by kernel_rfl) (by kernel_rfl) (fun _ _ _ h => h) (Or.inl ⟨by rfl, ?hy34⟩) (by assumption) ?rest34
        case hy34 => (intro w hSw; (try dsimp only at hSw); go_simp; first | done | with_reducible rfl)
        try simp only [Act.put, List.getElem_toArray, List.getElem_cons_succ, List.getElem_cons_zero, List.setIfInBounds_toArray, List.set_cons_zero, List.set_cons_succ]
        refine wpAnyH_ready (rs := [10]) (by kernel_rfl) (by simp) ?_
        refine AllReadyH.cons rfl (fun K hK => ?_) AllReadyH.nil
        go_simp
        refine hK.out _ _ Z8 (fun hHeld => ?_)
        clear hK K
        try simp only [Act.put, List.getElem_toArray, List.getElem_cons_succ, List.getElem_cons_zero, List.setIfInBounds_toArray, List.set_cons_zero, List.set_cons_succ]
        refine wpAnyH_done (by kernel_rfl) ?_ _
        go_wp2
        go_ret
        exact ⟨rfl, c3, _, _, HGF.out, by first | (rw [List.map_append, HWT.out]; rfl) | (rw [if_pos rfl, List.map_append, HWT.out]; rfl), HSF.out⟩
      · go_simp
        refine hK.out _ _ Z6 (fun hHeld => ?_)
        clear hK K
        try simp only [Act.put, List.getElem_toArray, List.getElem_cons_succ, List.getElem_cons_zero, List.setIfInBounds_toArray, List.set_cons_zero, List.set_cons_succ]
        refine wpAnyH_ready (rs := [4]) (by kernel_rfl) (by simp) ?_
        refine AllReadyH.cons rfl (fun K hK => ?_) AllReadyH.nil
        go_simp
        refine hK.out _ _ Z6 (fun hHeld => ?_)
        clear hK K
        try simp only [Act.put, List.getElem_toArray, List.getElem_cons_succ, List.getElem_cons_zero, List.setIfInBounds_toArray, List.set_cons_zero, List.set_cons_succ]
        refine wpAnyH_ready (rs := [7]) (by kernel_rfl) (by simp) ?_
        refine AllReadyH.cons rfl (fun K hK => ?_) AllReadyH.nil
        refine step_gappP (by rfl) _ _ elSg (by rfl) B (.slice sa N sc) (.slice (some ⟨u3.heap.size, 0, none⟩) 1 1) (svsC l) (svC X) N 1 N1 HN1.out (by rfl) (by rfl) OG9.out HB9.out HX9.out HXL.out HC9.out (by omega) HL9.out HL10.out ?_
        rw [HXC.out]
        intro sa2 sc2 w9 ho9 hk9
        obtain ⟨R9, ⟨g9, f9⟩, R98, GF, SF⟩ := FIN.out _ _ _ ho9 hk9
        have Z7 : (w9.cell? ⟨bx, 0, none⟩ = some (.int .i64 nn) ∧ w9.cell? ⟨bx, 1, none⟩ = some (.int .i64 (ix : Int)) ∧ w9.cell? ⟨bx, 2, none⟩ = some (.int .i64 (tmm : Int)) ∧ w9.cell? ⟨bx, 3, none⟩ = some (.slice ea en ec) ∧ w9.cell? ⟨bx, 4, none⟩ = some (.slice pa pn pc)) := ⟨R9.cellAt (o := 0) rfl, R9.cellAt (o := 1) rfl, R9.cellAt (o := 2) rfl, R9.cellAt (o := 3) rfl, R9.cellAt (o := 4) rfl⟩
        have Z8 : ((w9.setCell ⟨L, 3, none⟩ (.slice sa2 N1 sc2)).cell? ⟨bx, 0, none⟩ = some (.int .i64 nn) ∧ (w9.setCell ⟨L, 3, none⟩ (.slice sa2 N1 sc2)).cell? ⟨bx, 1, none⟩ = some (.int .i64 (ix : Int)) ∧ (w9.setCell ⟨L, 3, none⟩ (.slice sa2 N1 sc2)).cell? ⟨bx, 2, none⟩ = some (.int .i64 (tmm : Int)) ∧ (w9.setCell ⟨L, 3, none⟩ (.slice sa2 N1 sc2)).cell? ⟨bx, 3, none⟩ = some (.slice ea en ec) ∧ (w9.setCell ⟨L, 3, none⟩ (.slice sa2 N1 sc2)).cell? ⟨bx, 4, none⟩ = some (.slice pa pn pc)) := ⟨R98.cellAt (o := 0) rfl, R98.cellAt (o := 1) rfl, R98.cellAt (o := 2) rfl, R98.cellAt (o := 3) rfl, R98.cellAt (o := 4) rfl⟩
        have HGF := hid GF
        have HSF := hid SF
        clear ho9 hk9 FIN R9 R98 GF SF
        refine hK.out _ _ Z7 (fun hHeld => ?_)
        clear hK K
        try simp only [Act.put, List.getElem_toArray, List.getElem_cons_succ, List.getElem_cons_zero, List.setIfInBounds_toArray, List.set_cons_zero, List.set_cons_succ]
        refine wpAnyH_take (i := 8) (v := ?vv35) rfl (by kernel_rfl) (by kernel_rfl) (by kernel_rfl) (fun _ _ _ h => h) (Or.inl ⟨by rfl, ?hy35⟩) (by assumption) ?rest35
        case hy35 => (intro w hSw; (try dsimp only at hSw); go_simp; first | done | with_reducible rfl)
        try simp only [Act.put, List.getElem_toArray, List.getElem_cons_succ, List.getElem_cons_zero, List.setIfInBounds_toArray, List.set_cons_zero, List.set_cons_succ]
        refine wpAnyH_take (i := 9) (v := ?vv36) rfl (by kernel_rfl) (by kernel_rfl) (by kernel_rfl) (fun _ _ _ h => h) (Or.inl ⟨by rfl, ?hy36⟩) (by assumption) ?rest36
        case hy36 => (intro w hSw; (try dsimp only at hSw); go_simp; first | done | with_reducible rfl)
        try simp only [Act.put, List.getElem_toArray, List.getElem_cons_succ, List.getElem_cons_zero, List.setIfInBounds_toArray, List.set_cons_zero, List.set_cons_succ]
        refine wpAnyH_ready (rs := [10]) (by kernel_rfl) (by simp) ?_
        refine AllReadyH.cons rfl (fun K hK => ?_) AllReadyH.nil
        go_simp
        refine hK.out _ _ Z8 (fun hHeld => ?_)
        clear hK K
        try simp only [Act.put, List.getElem_toArray, List.getElem_cons_succ, List.getElem_cons_zero, List.setIfInBounds_toArray, List.set_cons_zero, List.set_cons_succ]
        refine wpAnyH_done (by kernel_rfl) ?_ _
        go_wp2
        go_ret
        exact ⟨rfl, c3, _, _, HGF.out, by first | (rw [List.map_append, HWT.out]; rfl) | (rw [if_pos rfl, List.map_append, HWT.out]; rfl), HSF.out⟩
    · have hne : (er != 0) = true := by simp [her]
      have FIN : Hid (LgE w c p d2 B L tm vt lost (l.map Sv.sg) u2) := ⟨c2, _, _, S5.out.g, rfl, S5.out.s⟩
      clear S5 R5 RB
      go_wp2
      go_ret
      first | exact ⟨rfl, FIN.out⟩ | (rw [if_neg her]; exact ⟨rfl, FIN.out⟩)

end Go.Proofs.YtefbioainibmaaaGreatDoor
namespace Go.Proofs.YtefbioainibmaaaGreatDoor
open Go.RowKit Go.Maps
set_option linter.unusedVariables false
set_option linter.unusedSimpArgs false

section
variable {d : Ds} {k B : Nat}
theorem PI.app (h : PI d k B) (name s : Bs) : PI (appD d name s).1 (k + 1) (B + (s.length + 1)) := h.call ⟨0, name, [], s, 0, 0, 0, 0, .slice none 0 0⟩ (by show (0 : Int) ≤ 0; decide) (by show (0 : Int) ≤ 4; decide)
theorem PI.wr (h : PI d k B) (name s : Bs) : PI (wrD d name s).1 (k + 1) (B + (s.length + 1)) := h.call ⟨1, name, [], s, 0, 0, 0, 0, .slice none 0 0⟩ (by show (0 : Int) ≤ 1; decide) (by show (1 : Int) ≤ 4; decide)
theorem PI.rm (h : PI d k B) (name : Bs) : PI (rmD d name).1 (k + 1) (B + 1) := h.call ⟨3, name, [], [], 0, 0, 0, 0, .slice none 0 0⟩ (by show (0 : Int) ≤ 3; decide) (by show (3 : Int) ≤ 4; decide)
theorem PI.cu (h : PI d k B) (name : Bs) (n : Int) : PI (cuD d name n).1 (k + 1) (B + 1) := h.call ⟨4, name, [], [], n, 0, 0, 0, .slice none 0 0⟩ (by show (0 : Int) ≤ 4; decide) (by show (4 : Int) ≤ 4; decide)
theorem PI.clr (h : PI d k B) (name : Bs) : PI (clrD d name).1 (k + 1) (B + 1) := h.rm name
theorem PI.m (h : PI d k B) : d.wt + d.S.length + d.ws.length ≤ B := h.wt
end
/-- files that are taken away -/
def rmL : Ds → List Int → Ds × Int
  | d, [] => (d, 0)
  | d, n :: r => if (rmD d (fnB n)).2 = 0 then rmL (rmD d (fnB n)).1 r else rmD d (fnB n)
theorem rmL_PI : ∀ (gs : List Int) (d : Ds) (k B : Nat), PI d k B → PI (rmL d gs).1 (k + gs.length) (B + gs.length)
  | [], d, k, B, h => h
  | n :: r, d, k, B, h => by
    unfold rmL
    split
    · exact (rmL_PI r _ _ _ (h.rm _)).mono (by simp; omega) (by simp; omega)
    · exact (h.rm _).mono (by simp) (by simp)
/-- what mending makes of the files -/
def mfS (d : Ds) (P : FdP) : Ds × List Sg × Int :=
  if (clrD d hnw).2 ≠ 0 then ((clrD d hnw).1, P.st, (clrD d hnw).2)
  else if (rmL (clrD d hnw).1 P.gs).2 ≠ 0 then ((rmL (clrD d hnw).1 P.gs).1, P.st, (rmL (clrD d hnw).1 P.gs).2)
  else match P.st.getLast? with
    | none => bgS (rmL (clrD d hnw).1 P.gs).1 P.st 0 0 []
    | some y => if P.torn = true then ((cuD (rmL (clrD d hnw).1 P.gs).1 (fnB y.n) y.sz).1, P.st, (cuD (rmL (clrD d hnw).1 P.gs).1 (fnB y.n) y.sz).2) else ((rmL (clrD d hnw).1 P.gs).1, P.st, 0)
theorem bgS_PI {d : Ds} {k B : Nat} (h : PI d k B) (l : List Sg) (ix tm : Nat) (q : List En) : PI (bgS d l ix tm q).1 (k + 1) (B + (28 + (txW q).length + 1)) := by
  unfold bgS
  split
  · exact h.mono (by omega) (by omega)
  · refine (h.wr _ _).mono (by omega) ?_
    have := bsB_len ix tm
    rw [List.length_append]
    omega
theorem mfS_PI {d : Ds} {k B : Nat} (h : PI d k B) (P : FdP) : PI (mfS d P).1 (k + P.gs.length + 2) (B + P.gs.length + 30) := by
  have h1 := h.clr hnw
  have h2 := rmL_PI P.gs _ _ _ h1
  unfold mfS
  split
  · exact h1.mono (by omega) (by omega)
  · split
    · exact h2.mono (by omega) (by omega)
    · split
      · exact (bgS_PI h2 _ 0 0 []).mono (by omega) (by simp [txW]; omega)
      · split
        · exact (h2.cu _ _).mono (by omega) (by omega)
        · exact h2.mono (by omega) (by omega)
def mdS (d : Ds) (P : FdP) : Ds × List Sg × Int :=
  if (mfS d P).2.2 ≠ 0 then mfS d P
  else if (mfS d P).1.n = d.n then ((mfS d P).1, (mfS d P).2.1, 0)
  else ((synR (mfS d P).1).1, (mfS d P).2.1, (synR (mfS d P).1).2)
/-- the log behind calls of the disk's alone -/
def LgF (w : World) (c : Nat → Nat) (p : Nat) (d : Ds) (B L : Nat) (tm vt : Int) (lost : Bool) (v : Value) (l : List Sv) (w' : World) : Prop :=
  ∃ c', LgD w' c' p d B L tm vt lost v l ∧ (∀ j, j < w.heap.size → c' j = c j) ∧ Keep (fun j => c j < 6) w w'
section
variable {w wi w' : World} {c : Nat → Nat} {B L p : Nat} {d d' : Ds} {tm vt tm' vt' : Int} {lost lost' : Bool} {v : Value} {l : List Sv} {ls : List Sg}
theorem LgD.f (h : LgD w c p d B L tm vt lost v l) : LgF w c p d B L tm vt lost v l w := ⟨c, h, fun _ _ => rfl, Keep.refl _ _⟩
theorem LgF.left (h : LgF w c p d B L tm vt lost v l wi) (C : ∀ c', DiskIs wi c' p d → Left wi c' p d' w') : LgF w c p d' B L tm vt lost v l w' := by
  obtain ⟨c1, h1, h2, h3⟩ := h
  have k := C c1 h1.lg.dk
  obtain ⟨c2, g2, s2⟩ := h1.left k
  exact ⟨c2, g2, fun j hj => (s2.co j (Nat.lt_of_lt_of_le hj h3.size)).trans (h2 j hj), h3.then k.2 (fun j hj e => by rw [h2 j hj] at e; exact e)⟩
theorem stepF {f : FuncId} {args : Array Value} {r : Value} (h : LgF w c p d B L tm vt lost v l wi) (C : ∀ W c, DiskIs W c p d → Calls Tryz.prog f args W fun e w' => e = .returned r ∧ Left W c p d' w') : Calls Tryz.prog f args wi fun e w' => e = .returned r ∧ LgF w c p d' B L tm vt lost v l w' := by
  obtain ⟨c1, h1, h2, h3⟩ := h
  refine (C wi c1 h1.lg.dk).mono fun e w' ⟨he, k⟩ => ⟨he, ?_⟩
  obtain ⟨c2, g2, s2⟩ := h1.left k
  exact ⟨c2, g2, fun j hj => (s2.co j (Nat.lt_of_lt_of_le hj h3.size)).trans (h2 j hj), h3.then k.2 (fun j hj e => by rw [h2 j hj] at e; exact e)⟩
theorem LgF.keep (h : LgF w c p d B L tm vt lost v l wi) (k : Keep (fun _ => False) wi w') : LgF w c p d B L tm vt lost v l w' := by
  obtain ⟨c1, h1, h2, h3⟩ := h
  exact ⟨c1, h1.keep1 k, h2, h3.trans (k.mono (fun _ _ h => h.elim))⟩
theorem LgF.next (h : LgF w c p d B L tm vt lost v l wi) (b : Below wi.heap.size wi w') : LgF w c p d B L tm vt lost v l w' := h.keep (b.keep _)
theorem LgF.lgi (h : LgF w c p d B L tm vt lost v l wi) : LogI wi B L p tm vt lost v l := by
  obtain ⟨c1, h1, h2, h3⟩ := h
  exact h1.lg.lg
theorem LgF.gv (h : LgF w c p d B L tm vt lost v l wi) : GV wi := by
  obtain ⟨c1, h1, h2, h3⟩ := h
  exact h1.gv
theorem LgF.kp (h : LgF w c p d B L tm vt lost v l wi) : Keep (fun j => c j < 6) w wi := by
  obtain ⟨c1, h1, h2, h3⟩ := h
  exact h3
theorem LgF.e (h : LgF w c p d B L tm vt lost v l wi) : LgE w c p d B L tm vt lost (l.map Sv.sg) wi := by
  obtain ⟨c1, h1, h2, h3⟩ := h
  exact ⟨c1, v, l, h1, rfl, h2, h3.mono (fun j _ hj => .inl hj)⟩
/-- a call of the log's behind them -/
theorem stepFE {f : FuncId} {args : Array Value} {r : Value} (h : LgF w c p d B L tm vt lost v l wi) (C : ∀ W c, LgD W c p d B L tm vt lost v l → Calls Tryz.prog f args W fun e w' => e = .returned r ∧ LgE W c p d' B L tm' vt' lost' ls w') : Calls Tryz.prog f args wi fun e w' => e = .returned r ∧ LgE w c p d' B L tm' vt' lost' ls w' := by
  obtain ⟨c1, h1, h2, h3⟩ := h
  exact (C wi c1 h1).mono fun e w' ⟨he, hL⟩ => ⟨he, hL.trans ⟨h2, h3.mono (fun j _ hj => .inl hj)⟩⟩
end
end Go.Proofs.YtefbioainibmaaaGreatDoor
namespace Go.Proofs.YtefbioainibmaaaGreatDoor
open Go.RowKit Go.Maps
set_option linter.unusedVariables false
set_option linter.unusedSimpArgs false

set_option maxRecDepth 100000 in
set_option maxHeartbeats 8000000 in
theorem mendFiles_any {w : World} {c : Nat → Nat} {B L p : Nat} {d : Ds} {tm vt : Int} {lost : Bool} {v : Value} {l : List Sv} (h : LgD w c p d B L tm vt lost v l) (aS : Option Addr) (cs : Nat) (vg : Value) (P : FdP) (hst : l.map Sv.sg = P.st) (hg : IntsI w vg P.gs) (hgc : ∀ b, vg.ownBlock = some b → P.gs ≠ [] → 6 < c b) (hgb : ∀ n ∈ P.gs, 1 ≤ n ∧ n ≤ 4611686018427387903) (hlb : ∀ y ∈ l, SvB y) (hl : l.length ≤ 500000) (hgl : P.gs.length ≤ 500000) {K M : Nat} (hPI : PI d K M) (hK : K ≤ 1000000000000) (hM : M ≤ 60000000000) :
    Calls Tryz.prog 107 #[.pointer (some ⟨L, 0, none⟩), .agg #[.slice aS l.length cs, vg, .bool P.torn]] w fun e w' => e = .returned (.int .i64 (mfS d P).2.2) ∧ LgE w c p (mfS d P).1 B L tm vt lost (mfS d P).2.1 w' := by
  obtain ⟨ag, cg, rfl, -⟩ := hg.form
  obtain ⟨c1, g1, s1, n1⟩ := h.fresh (Keep.refl _ _)
  have k0 : Keep (fun _ => False) w (w.alloc (.cells #[.slice aS l.length cs, .slice ag P.gs.length cg, .bool P.torn] 103)) := keep_alloc _ _ _
  have F0 : Hid (LgF (w.alloc (.cells #[.slice aS l.length cs, .slice ag P.gs.length cg, .bool P.torn] 103)) c1 p d B L tm vt lost v l (w.alloc (.cells #[.slice aS l.length cs, .slice ag P.gs.length cg, .bool P.torn] 103))) := (g1.keep1 k0).f
  have HST : Hid (∀ (d' : Ds) (ls : List Sg) (W : World), LgE (w.alloc (.cells #[.slice aS l.length cs, .slice ag P.gs.length cg, .bool P.torn] 103)) c1 p d' B L tm vt lost ls W → LgE w c p d' B L tm vt lost ls W) := fun d' ls W hh => hh.trans (s1.keep1 k0)
  have BX0 := srow w [.slice aS l.length cs, .slice ag P.gs.length cg, .bool P.torn] 103
  have hcb : c1 w.heap.size = 8 := n1 _ (Nat.le_refl _)
  have BX : Hid (∀ d' W, LgF (w.alloc (.cells #[.slice aS l.length cs, .slice ag P.gs.length cg, .bool P.torn] 103)) c1 p d' B L tm vt lost v l W → RowIs W w.heap.size [.slice aS l.length cs, .slice ag P.gs.length cg, .bool P.torn] 103) := fun d' W hF => BX0.keep hF.kp (by omega)
  have GI : Hid (∀ d' W, LgF (w.alloc (.cells #[.slice aS l.length cs, .slice ag P.gs.length cg, .bool P.torn] 103)) c1 p d' B L tm vt lost v l W → IntsI W (.slice ag P.gs.length cg) P.gs) := fun d' W hF => (hg.keepS k0 (fun _ _ _ h => h)).keepS hF.kp (fun b hb hn e => by have h1 := hgc b hb hn; have h2 := s1.co b (hg.lt hb hn); omega)
  have CL : Hid (∀ W c, DiskIs W c p d → Calls Tryz.prog 147 #[.pointer (some ⟨p, 0, none⟩), .string ⟨#[104, 97, 114, 100, 46, 110, 101, 119]⟩] W fun e w' => e = .returned (.int .i64 (clrD d hnw).2) ∧ Left W c p (clrD d hnw).1 w') := fun W c D => clear_any p c d hnw W D (by have h1 := hPI.m; have h2 : hnw.length = 8 := rfl; omega) (by have := hPI.n; omega)
  have RM0 : Hid (∀ (n : Int) (dk : Ds) (k : Nat), 1 ≤ n → n ≤ 4611686018427387903 → k ≤ 600000 → PI dk (K + 1 + k) (M + 1 + k) → ∀ W c, DiskIs W c p dk → Calls Tryz.prog 122 #[.pointer (some ⟨p, 0, none⟩), .string ⟨(fnB n).toArray⟩] W fun e w' => e = .returned (.int .i64 (rmD dk (fnB n)).2) ∧ Left W c p (rmD dk (fnB n)).1 w') := fun n dk k h0 h1 h2 hp W c D => by
    have hf := fnB_len n (by omega) (by omega)
    exact remove_any p c dk (fnB n) W D (by have := hp.m; omega) (by have := hp.n; omega)
  have CU0 : Hid (∀ (n z : Int) (dk : Ds) (k : Nat), 1 ≤ n → n ≤ 4611686018427387903 → k ≤ 600000 → PI dk (K + 1 + k) (M + 1 + k) → ∀ W c, DiskIs W c p dk → Calls Tryz.prog 148 #[.pointer (some ⟨p, 0, none⟩), .string ⟨(fnB n).toArray⟩, .int .i64 z] W fun e w' => e = .returned (.int .i64 (cuD dk (fnB n) z).2) ∧ Left W c p (cuD dk (fnB n) z).1 w') := fun n z dk k h0 h1 h2 hp W c D => by
    have hf := fnB_len n (by omega) (by omega)
    exact cut_any p c dk (fnB n) z W D (by have := hp.m; omega) (by have := hp.n; omega)
  have BG0 : Hid (∀ (dk : Ds) (k : Nat), l = [] → k ≤ 600000 → PI dk (K + 1 + k) (M + 1 + k) → ∀ W c, LgD W c p dk B L tm vt lost v l → Calls Tryz.prog 124 #[.pointer (some ⟨L, 0, none⟩), .int .i64 0, .int .i64 0, .slice none 0 0] W fun e w' => e = .returned (.int .i64 (bgS dk (l.map Sv.sg) 0 0 []).2.2) ∧ LgE W c p (bgS dk (l.map Sv.sg) 0 0 []).1 B L tm vt lost (bgS dk (l.map Sv.sg) 0 0 []).2.1 w') := fun dk k hl0 hk hp W c D => begin_any D 0 0 (by omega) (by omega) (.slice none 0 0) [] (.inl ⟨none, 0, rfl, rfl⟩) (fun b hb => (by cases hb)) (fun x hx => (by cases hx)) (by simp) (fun y hy => (by subst hl0; cases hy)) (by subst hl0; simp) (by have := hp.m; omega) (by have := hp.n; omega)
  have HPI1 : Hid (PI (clrD d hnw).1 (K + 1 + 0) (M + 1 + 0)) := hPI.clr hnw
  have HGB := hid hgb
  have HLB := hid hlb
  have HL := hid hl
  have HGL := hid hgl
  have HM0 : Hid (mfS d P = if (clrD d hnw).2 ≠ 0 then ((clrD d hnw).1, P.st, (clrD d hnw).2)
    else if (rmL (clrD d hnw).1 P.gs).2 ≠ 0 then ((rmL (clrD d hnw).1 P.gs).1, P.st, (rmL (clrD d hnw).1 P.gs).2)
    else match P.st.getLast? with
      | none => bgS (rmL (clrD d hnw).1 P.gs).1 P.st 0 0 []
      | some y => if P.torn = true then ((cuD (rmL (clrD d hnw).1 P.gs).1 (fnB y.n) y.sz).1, P.st, (cuD (rmL (clrD d hnw).1 P.gs).1 (fnB y.n) y.sz).2) else ((rmL (clrD d hnw).1 P.gs).1, P.st, 0)) := rfl
  clear h hg hgc hgb hlb hl hgl hPI hK hM g1 s1 n1 k0 BX0 hcb
  generalize clrD d hnw = A at *
  obtain ⟨d1, e1⟩ := A
  generalize mfS d P = R at *
  obtain ⟨st, gs, torn, eP⟩ := P
  simp only at *
  subst hst
  have x0 := F0.out.lgi.bx.cellAt (o := 0) rfl
  go_enter Tryz.func107, Tryz.ntmps107
  go_wp2_with fail
  generalize w.alloc (.cells #[.slice aS l.length cs, .slice ag gs.length cg, .bool torn] 103) = w0 at *
  refine (stepF F0.out CL.out).mono ?_
  rintro e w1 ⟨rfl, hF1⟩
  have F1 := hid hF1
  clear F0 hF1 CL x0
  by_cases he1 : e1 = 0
  case neg =>
    have hne : (e1 != 0) = true := by simp [he1]
    obtain rfl : R = (d1, l.map Sv.sg, e1) := HM0.out.trans (if_pos he1)
    have FIN := hid (HST.out _ _ _ F1.out.e)
    clear HM0 BX GI RM0 CU0 BG0 F1 HST HPI1
    go_wp2
    go_ret
    exact ⟨rfl, FIN.out⟩
  subst he1
  have HM1 := hid (HM0.out.trans (if_neg (fun h => h rfl)))
  clear HM0
  have x1 := (BX.out _ _ F1.out).cellAt (o := 1) rfl
  go_wp2_with fail
  go_loopw [19] (fun i wr => ∃ k : Nat, i = .int .i64 (k : Int) ∧ Hid (k ≤ gs.length) ∧ Hid (∃ dk, rmL d1 gs = rmL dk (gs.drop k) ∧ PI dk (K + 1 + k) (M + 1 + k) ∧ LgF w0 c1 p dk B L tm vt lost v l wr)) (fun i _ => gs.length - (intOf i).toNat)
  case atStart => exact ⟨0, rfl, Nat.zero_le _, d1, rfl, HPI1.out, F1.out⟩
  case round =>
    clear F1 HPI1 x1
    obtain ⟨k, rfl, HK, HF⟩ := hrel
    obtain ⟨dk, hrm, hpi, hF⟩ := HF.out
    have F := hid hF
    have HRM := hid hrm
    have HPK := hid hpi
    clear HF hF hrm hpi
    by_cases hk : k < gs.length
    · obtain ⟨a9, c9, e9, hc9⟩ := (GI.out _ _ F.out).form
      obtain ⟨bg, og, hag, -, -⟩ := hc9 k hk
      injection e9 with e91 e92 e93
      obtain rfl : ag = some ⟨bg, og, none⟩ := e91.trans hag
      clear e91 e92 e93 hag hc9
      obtain ⟨n, hn⟩ : ∃ n, gs[k] = n := ⟨_, rfl⟩
      have hnb := HGB.out n (hn ▸ List.getElem_mem hk)
      have hk6 : k ≤ 600000 := by have := HK.out; have := HGL.out; omega
      have RM := hid (RM0.out n dk k hnb.1 hnb.2 hk6 HPK.out)
      have FO : Hid (∀ W, GV W → Calls Tryz.prog 103 #[.int .i64 n] W fun e w' => e = .returned (.string ⟨(fnB n).toArray⟩) ∧ Below W.heap.size W w') := fun W hG => fileOf_any n W (by omega) (by omega) hG
      have ZC : Hid (∀ d' W, LgF w0 c1 p d' B L tm vt lost v l W → W.cell? ⟨L, 0, none⟩ = some (.pointer (some ⟨p, 0, none⟩)) ∧ W.cell? ⟨w.heap.size, 1, none⟩ = some (.slice (some ⟨bg, og, none⟩) gs.length cg) ∧ W.cell? ⟨bg, og + k, none⟩ = some (.int .i64 n)) := fun d' W hF => ⟨hF.lgi.bx.cellAt (o := 0) rfl, (BX.out _ _ hF).cellAt (o := 1) rfl, by rw [← hn]; exact (GI.out _ _ hF).cellN k hk⟩
      have HR : Hid (rmL d1 gs = if (rmD dk (fnB n)).2 = 0 then rmL (rmD dk (fnB n)).1 (gs.drop (k + 1)) else rmD dk (fnB n)) := by
        show _ = _
        rw [HRM.out, List.drop_eq_getElem_cons hk, hn]
        rfl
      have HP2 : Hid (PI (rmD dk (fnB n)).1 (K + 1 + (k + 1)) (M + 1 + (k + 1))) := (HPK.out.rm _).mono (by omega) (by omega)
      have k0 : (0 : Int) ≤ (k : Int) := by omega
      have k1 : (k : Int) < (gs.length : Int) := by omega
      have HWK : Hid (wrap64 ((k : Int) + 1) = (k : Int) + 1) := by show _ = _; rw [IntWalk.wrap64_in _ (by omega)]
      clear RM0 CU0 BG0 HRM HPK hnb hk6 hn
      generalize rmD dk (fnB n) = A at *
      obtain ⟨d2, e2⟩ := A
      simp only at *
      have F2 := hid (F.out.next (Below.refl _ _).drew)
      clear F
      go_wp2_with fail
      refine wp_region_held_drew (S := fun W => W.cell? ⟨L, 0, none⟩ = some (.pointer (some ⟨p, 0, none⟩)) ∧ W.cell? ⟨w.heap.size, 1, none⟩ = some (.slice (some ⟨bg, og, none⟩) gs.length cg) ∧ W.cell? ⟨bg, og + k, none⟩ = some (.int .i64 n)) (by kernel_rfl) (ZC.out _ _ F2.out) (fun hHeld => ?_)
      generalize wr.drew = u0 at *
      refine wpAnyH_take (i := 0) (v := ?vv1) rfl (by kernel_rfl) (by kernel_rfl) (by kernel_rfl) (fun _ _ _ h => h) (Or.inl ⟨by rfl, ?hy1⟩) (by assumption) ?rest1
      case hy1 => (intro w hSw; (try dsimp only at hSw); go_simp; first | done | with_reducible rfl)
      try simp only [Act.put, List.getElem_toArray, List.getElem_cons_succ, List.getElem_cons_zero, List.setIfInBounds_toArray, List.set_cons_zero, List.set_cons_succ]
      refine wpAnyH_take (i := 1) (v := ?vv2) rfl (by kernel_rfl) (by kernel_rfl) (by kernel_rfl) (fun _ _ _ h => h) (Or.inl ⟨by rfl, ?hy2⟩) (by assumption) ?rest2
      case hy2 => (intro w hSw; (try dsimp only at hSw); go_simp; first | done | with_reducible rfl)
      try simp only [Act.put, List.getElem_toArray, List.getElem_cons_succ, List.getElem_cons_zero, List.setIfInBounds_toArray, List.set_cons_zero, List.set_cons_succ]
      refine wpAnyH_take (i := 2) (v := ?vv3) rfl (by kernel_rfl) (by kernel_rfl) (by kernel_rfl) (fun _ _ _ h => h) (Or.inl ⟨by rfl, ?hy3⟩) (by assumption) ?rest3
      case hy3 => (intro w hSw; (try dsimp only at hSw); go_simp; first | done | with_reducible rfl)
      try simp only [Act.put, List.getElem_toArray, List.getElem_cons_succ, List.getElem_cons_zero, List.setIfInBounds_toArray, List.set_cons_zero, List.set_cons_succ]
      refine wpAnyH_take (i := 3) (v := ?vv4) rfl (by kernel_rfl) (by kernel_rfl) (by kernel_rfl) (fun _ _ _ h => h) (Or.inl ⟨by rfl, ?hy4⟩) (by assumption) ?rest4
      case hy4 => (intro w hSw; (try dsimp only at hSw); go_simp; first | done | with_reducible rfl)
      try simp only [Act.put, List.getElem_toArray, List.getElem_cons_succ, List.getElem_cons_zero, List.setIfInBounds_toArray, List.set_cons_zero, List.set_cons_succ]
      refine wpAnyH_take (i := 4) (v := ?vv5) rfl (by kernel_rfl) (by kernel_rfl) (by kernel_rfl) (fun _ _ _ h => h) (Or.inl ⟨by rfl, ?hy5⟩) (by assumption) ?rest5
      case hy5 => (intro w hSw; (try dsimp only at hSw); go_simp; first | done | with_reducible rfl)
      try simp only [Act.put, List.getElem_toArray, List.getElem_cons_succ, List.getElem_cons_zero, List.setIfInBounds_toArray, List.set_cons_zero, List.set_cons_succ]
      refine wpAnyH_take (i := 5) (v := ?vv6) rfl (by kernel_rfl) (by kernel_rfl) (by kernel_rfl) (fun _ _ _ h => h) (Or.inl ⟨by rfl, ?hy6⟩) (by assumption) ?rest6
      case hy6 => (intro w hSw; (try dsimp only at hSw); go_simp; first | done | with_reducible rfl)
      try simp only [Act.put, List.getElem_toArray, List.getElem_cons_succ, List.getElem_cons_zero, List.setIfInBounds_toArray, List.set_cons_zero, List.set_cons_succ]
      refine wpAnyH_take (i := 6) (v := ?vv7) rfl (by kernel_rfl) (by kernel_rfl) (by kernel_rfl) (fun _ _ _ h => h) (Or.inl ⟨by rfl, ?hy7⟩) (by assumption) ?rest7
      case hy7 => (intro w hSw; (try dsimp only at hSw); go_simp; first | done | with_reducible rfl)
      try simp only [Act.put, List.getElem_toArray, List.getElem_cons_succ, List.getElem_cons_zero, List.setIfInBounds_toArray, List.set_cons_zero, List.set_cons_succ]
      refine wpAnyH_take (i := 7) (v := ?vv8) rfl (by kernel_rfl) (by kernel_rfl) (by kernel_rfl) (fun _ _ _ h => h) (Or.inl ⟨by rfl, ?hy8⟩) (by assumption) ?rest8
      case hy8 => (intro w hSw; (try dsimp only at hSw); go_simp; first | done | with_reducible rfl)
      try simp only [Act.put, List.getElem_toArray, List.getElem_cons_succ, List.getElem_cons_zero, List.setIfInBounds_toArray, List.set_cons_zero, List.set_cons_succ]
      refine wpAnyH_take (i := 8) (v := ?vv9) rfl (by kernel_rfl) (by kernel_rfl) (by kernel_rfl) (fun _ _ _ h => h) (Or.inl ⟨by rfl, ?hy9⟩) (by assumption) ?rest9
      case hy9 => (intro w hSw; (try dsimp only at hSw); go_simp; first | done | with_reducible rfl)
      try simp only [Act.put, List.getElem_toArray, List.getElem_cons_succ, List.getElem_cons_zero, List.setIfInBounds_toArray, List.set_cons_zero, List.set_cons_succ]
      refine wpAnyH_ready (rs := [9]) (by kernel_rfl) (by simp) ?_
      refine AllReadyH.cons rfl (fun K hK => ?_) AllReadyH.nil
      go_simp
      refine (FO.out _ F2.out.gv).mono ?_
      rintro e u1 ⟨rfl, b1⟩
      have F3 := hid (F2.out.next b1)
      clear b1 FO hHeld F2
      go_wp2_with fail
      refine hK.out _ _ (ZC.out _ _ F3.out) (fun hHeld => ?_)
      clear hK K
      try simp only [Act.put, List.getElem_toArray, List.getElem_cons_succ, List.getElem_cons_zero, List.setIfInBounds_toArray, List.set_cons_zero, List.set_cons_succ]
      refine wpAnyH_ready (rs := [10]) (by kernel_rfl) (by simp) ?_
      refine AllReadyH.cons rfl (fun K hK => ?_) AllReadyH.nil
      go_simp
      refine (stepF F3.out RM.out).mono ?_
      rintro e u2 ⟨rfl, hF⟩
      have F4 := hid hF
      clear hF F3 RM hHeld
      go_wp2_with fail
      refine hK.out _ _ (ZC.out _ _ F4.out) (fun hHeld => ?_)
      clear hK K
      try simp only [Act.put, List.getElem_toArray, List.getElem_cons_succ, List.getElem_cons_zero, List.setIfInBounds_toArray, List.set_cons_zero, List.set_cons_succ]
      refine wpAnyH_take (i := 11) (v := ?vv10) rfl (by kernel_rfl) (by kernel_rfl) (by kernel_rfl) (fun _ _ _ h => h) (Or.inl ⟨by rfl, ?hy10⟩) (by assumption) ?rest10
      case hy10 => (intro w hSw; (try dsimp only at hSw); go_simp; first | done | with_reducible rfl)
      try simp only [Act.put, List.getElem_toArray, List.getElem_cons_succ, List.getElem_cons_zero, List.setIfInBounds_toArray, List.set_cons_zero, List.set_cons_succ]
      refine wpAnyH_done (by kernel_rfl) ?_ _
      clear hHeld ZC
      by_cases he2 : e2 = 0
      · subst he2
        have HR2 : Hid (rmL d1 gs = rmL d2 (gs.drop (k + 1))) := HR.out.trans (if_pos rfl)
        clear HR HM1 BX GI
        go_wp2
        exact ⟨⟨k + 1, by rw [HWK.out]; go_num, hk, d2, HR2.out, HP2.out, F4.out⟩, by rw [HWK.out]; exact meas _ _ hk⟩
      · have hne : (e2 != 0) = true := by simp [he2]
        have HR2 : Hid (rmL d1 gs = (d2, e2)) := HR.out.trans (if_neg he2)
        obtain rfl : R = (d2, l.map Sv.sg, e2) := by have h9 := HM1.out; rw [HR2.out] at h9; exact h9.trans (if_pos he2)
        have FIN := hid (HST.out _ _ _ F4.out.e)
        clear HM1 HR HR2 BX GI F4 HST
        go_wp2
        (try simp only [Exit.inBlock, Exit.then])
        go_ret
        exact ⟨rfl, FIN.out⟩
    · have hd : decide ((k : Int) < (gs.length : Int)) = false := decide_eq_false (by omega)
      have hd2 : decide (k < gs.length) = false := decide_eq_false hk
      have HR2 : Hid (rmL d1 gs = (dk, 0)) := by show _ = _; rw [HRM.out, List.drop_of_length_le (by omega)]; rfl
      have HM2 : Hid (R = match (l.map Sv.sg).getLast? with
        | none => bgS dk (l.map Sv.sg) 0 0 []
        | some y => if torn = true then ((cuD dk (fnB y.n) y.sz).1, l.map Sv.sg, (cuD dk (fnB y.n) y.sz).2) else (dk, l.map Sv.sg, 0)) := by
        have h9 := HM1.out
        rw [HR2.out] at h9
        exact h9.trans (if_neg (fun h => h rfl))
      have hk6 : k ≤ 600000 := by have := HK.out; have := HGL.out; omega
      have ZL : Hid (∀ d' W, LgF w0 c1 p d' B L tm vt lost v l W → W.cell? ⟨L, 0, none⟩ = some (.pointer (some ⟨p, 0, none⟩))) := fun d' W hF => hF.lgi.bx.cellAt (o := 0) rfl
      have x0 := (BX.out _ _ F.out).cellAt (o := 0) rfl
      have x2 := (BX.out _ _ F.out).cellAt (o := 2) rfl
      clear HM1 HRM HR2
      by_cases hz : l.length = 0
      · have hl0 : l = [] := List.length_eq_zero_iff.1 hz
        have z1 : ((l.length : Int) == 0) = true := by rw [hz]; rfl
        have BG := hid (BG0.out dk k hl0 hk6 HPK.out)
        have HM3 : Hid (R = bgS dk (l.map Sv.sg) 0 0 []) := by have h9 := HM2.out; subst hl0; exact h9
        clear HM2 BX GI RM0 CU0 BG0 hl0
        go_wp2_with fail
        refine (stepFE F.out BG.out).mono ?_
        rintro e w2 ⟨rfl, hE⟩
        have FIN := hid (HST.out _ _ _ hE)
        clear F BG hE HST
        go_wp2
        go_ret
        rw [HM3.out]
        exact ⟨rfl, FIN.out⟩
      · have z1 : ((l.length : Int) == 0) = false := beq_eq_false_iff_ne.2 (by omega)
        obtain ⟨m, hm⟩ : ∃ m, l.length = m + 1 := ⟨l.length - 1, by omega⟩
        obtain ⟨y, hy⟩ : ∃ y, l[m]? = some y := ⟨_, List.getElem?_eq_getElem (by omega)⟩
        have hgl : (l.map Sv.sg).getLast? = some y.sg := by rw [List.getLast?_map, List.getLast?_eq_getElem?, show l.length - 1 = m by omega, hy]; rfl
        have HM3 : Hid (R = if torn = true then ((cuD dk (fnB y.n) y.sg.sz).1, l.map Sv.sg, (cuD dk (fnB y.n) y.sg.sz).2) else (dk, l.map Sv.sg, 0)) := by have h9 := HM2.out; rw [hgl] at h9; exact h9
        have hym := List.mem_of_getElem? hy
        obtain ⟨i0, i1, i2, i3, i4, i5, i6, i7⟩ := HLB.out y hym
        clear HM2 hgl
        cases torn with
        | false =>
          obtain rfl : R = (dk, l.map Sv.sg, 0) := HM3.out.trans (if_neg (by simp))
          have FIN := hid (HST.out _ _ _ F.out.e)
          clear HM3 BX GI RM0 CU0 BG0 F HST ZL hm hy hz
          go_wp2
          go_ret
          exact ⟨rfl, FIN.out⟩
        | true =>
          have HM4 := hid (HM3.out.trans (if_pos rfl))
          have LA : Hid (∀ W, LogI W B L p tm vt lost v l → Calls Tryz.prog 63 #[.pointer (some ⟨L, 0, none⟩)] W fun e w' => e = .returned (.agg #[.int .i64 y.n, .int .i64 y.ix, .int .i64 y.tm, y.ve, y.vp]) ∧ Below W.heap.size W w') := fun W hI => wlast_any hI m hm (by have := HL.out; omega) y hy
          have FI : Hid (∀ W, GV W → Calls Tryz.prog 123 #[.agg #[.int .i64 y.n, .int .i64 y.ix, .int .i64 y.tm, y.ve, y.vp]] W fun e w' => e = .returned (.string ⟨(fnB y.n).toArray⟩) ∧ Below W.heap.size W w') := fun W hG => sgfile_any y.n y.ix y.tm y.ve y.vp W (by omega) (by omega) hG
          have SZ : Hid (∀ W, LogI W B L p tm vt lost v l → Calls Tryz.prog 105 #[.agg #[.int .i64 y.n, .int .i64 y.ix, .int .i64 y.tm, y.ve, y.vp]] W fun e w' => e = .returned (.int .i64 y.sg.sz) ∧ Below W.heap.size W w') := fun W hI => sgsize_any y.n y.ix y.tm y.ve y.vp y.ps W (hI.sg.sg y hym).oi.ints (by omega) (by omega)
          have CU := hid (CU0.out y.n y.sg.sz dk k i6 i7 hk6 HPK.out)
          clear HM3 RM0 CU0 BG0 GI i0 i1 i2 i3 i4 i5 i6 i7 hym hy hm hz HLB
          generalize y.sg.sz = z at *
          generalize cuD dk (fnB y.n) z = A at *
          obtain ⟨d2, e2⟩ := A
          simp only at *
          go_wp2_with fail
          have F2 := hid (F.out.next (Below.refl _ _).drew)
          clear F x0 x2
          refine wp_region_held_drew (S := fun W => W.cell? ⟨L, 0, none⟩ = some (.pointer (some ⟨p, 0, none⟩))) (by kernel_rfl) (ZL.out _ _ F2.out) (fun hHeld => ?_)
          generalize wr.drew = u0 at *
          refine wpAnyH_take (i := 0) (v := ?vv11) rfl (by kernel_rfl) (by kernel_rfl) (by kernel_rfl) (fun _ _ _ h => h) (Or.inl ⟨by rfl, ?hy11⟩) (by assumption) ?rest11
          case hy11 => (intro w hSw; (try dsimp only at hSw); go_simp; first | done | with_reducible rfl)
          try simp only [Act.put, List.getElem_toArray, List.getElem_cons_succ, List.getElem_cons_zero, List.setIfInBounds_toArray, List.set_cons_zero, List.set_cons_succ]
          refine wpAnyH_take (i := 1) (v := ?vv12) rfl (by kernel_rfl) (by kernel_rfl) (by kernel_rfl) (fun _ _ _ h => h) (Or.inl ⟨by rfl, ?hy12⟩) (by assumption) ?rest12
          case hy12 => (intro w hSw; (try dsimp only at hSw); go_simp; first | done | with_reducible rfl)
          try simp only [Act.put, List.getElem_toArray, List.getElem_cons_succ, List.getElem_cons_zero, List.setIfInBounds_toArray, List.set_cons_zero, List.set_cons_succ]
          refine wpAnyH_take (i := 2) (v := ?vv13) rfl (by kernel_rfl) (by kernel_rfl) (by kernel_rfl) (fun _ _ _ h => h) (Or.inl ⟨by rfl, ?hy13⟩) (by assumption) ?rest13
          case hy13 => (intro w hSw; (try dsimp only at hSw); go_simp; first | done | with_reducible rfl)
          try simp only [Act.put, List.getElem_toArray, List.getElem_cons_succ, List.getElem_cons_zero, List.setIfInBounds_toArray, List.set_cons_zero, List.set_cons_succ]
          refine wpAnyH_take (i := 3) (v := ?vv14) rfl (by kernel_rfl) (by kernel_rfl) (by kernel_rfl) (fun _ _ _ h => h) (Or.inl ⟨by rfl, ?hy14⟩) (by assumption) ?rest14
          case hy14 => (intro w hSw; (try dsimp only at hSw); go_simp; first | done | with_reducible rfl)
          try simp only [Act.put, List.getElem_toArray, List.getElem_cons_succ, List.getElem_cons_zero, List.setIfInBounds_toArray, List.set_cons_zero, List.set_cons_succ]
          refine wpAnyH_take (i := 4) (v := ?vv15) rfl (by kernel_rfl) (by kernel_rfl) (by kernel_rfl) (fun _ _ _ h => h) (Or.inl ⟨by rfl, ?hy15⟩) (by assumption) ?rest15
          case hy15 => (intro w hSw; (try dsimp only at hSw); go_simp; first | done | with_reducible rfl)
          try simp only [Act.put, List.getElem_toArray, List.getElem_cons_succ, List.getElem_cons_zero, List.setIfInBounds_toArray, List.set_cons_zero, List.set_cons_succ]
          refine wpAnyH_take (i := 7) (v := ?vv16) rfl (by kernel_rfl) (by kernel_rfl) (by kernel_rfl) (fun _ _ _ h => h) (Or.inl ⟨by rfl, ?hy16⟩) (by assumption) ?rest16
          case hy16 => (intro w hSw; (try dsimp only at hSw); go_simp; first | done | with_reducible rfl)
          try simp only [Act.put, List.getElem_toArray, List.getElem_cons_succ, List.getElem_cons_zero, List.setIfInBounds_toArray, List.set_cons_zero, List.set_cons_succ]
          refine wpAnyH_ready (rs := [5]) (by kernel_rfl) (by simp) ?_
          refine AllReadyH.cons rfl (fun K hK => ?_) AllReadyH.nil
          go_simp
          refine (LA.out _ F2.out.lgi).mono ?_
          rintro e u1 ⟨rfl, b1⟩
          have F3 := hid (F2.out.next b1)
          clear b1 hHeld F2
          go_wp2_with fail
          refine hK.out _ _ (ZL.out _ _ F3.out) (fun hHeld => ?_)
          clear hK K
          try simp only [Act.put, List.getElem_toArray, List.getElem_cons_succ, List.getElem_cons_zero, List.setIfInBounds_toArray, List.set_cons_zero, List.set_cons_succ]
          refine wpAnyH_ready (rs := [6]) (by kernel_rfl) (by simp) ?_
          refine AllReadyH.cons rfl (fun K hK => ?_) AllReadyH.nil
          go_simp
          refine (FI.out _ F3.out.gv).mono ?_
          rintro e u2 ⟨rfl, b1⟩
          have F4 := hid (F3.out.next b1)
          clear b1 hHeld F3 FI
          go_wp2_with fail
          refine hK.out _ _ (ZL.out _ _ F4.out) (fun hHeld => ?_)
          clear hK K
          try simp only [Act.put, List.getElem_toArray, List.getElem_cons_succ, List.getElem_cons_zero, List.setIfInBounds_toArray, List.set_cons_zero, List.set_cons_succ]
          refine wpAnyH_ready (rs := [8]) (by kernel_rfl) (by simp) ?_
          refine AllReadyH.cons rfl (fun K hK => ?_) AllReadyH.nil
          go_simp
          refine (LA.out _ F4.out.lgi).mono ?_
          rintro e u3 ⟨rfl, b1⟩
          have F5 := hid (F4.out.next b1)
          clear b1 hHeld F4 LA
          go_wp2_with fail
          refine hK.out _ _ (ZL.out _ _ F5.out) (fun hHeld => ?_)
          clear hK K
          try simp only [Act.put, List.getElem_toArray, List.getElem_cons_succ, List.getElem_cons_zero, List.setIfInBounds_toArray, List.set_cons_zero, List.set_cons_succ]
          refine wpAnyH_ready (rs := [9]) (by kernel_rfl) (by simp) ?_
          refine AllReadyH.cons rfl (fun K hK => ?_) AllReadyH.nil
          go_simp
          refine (SZ.out _ F5.out.lgi).mono ?_
          rintro e u4 ⟨rfl, b1⟩
          have F6 := hid (F5.out.next b1)
          clear b1 hHeld F5 SZ
          go_wp2_with fail
          refine hK.out _ _ (ZL.out _ _ F6.out) (fun hHeld => ?_)
          clear hK K
          try simp only [Act.put, List.getElem_toArray, List.getElem_cons_succ, List.getElem_cons_zero, List.setIfInBounds_toArray, List.set_cons_zero, List.set_cons_succ]
          refine wpAnyH_ready (rs := [10]) (by kernel_rfl) (by simp) ?_
          refine AllReadyH.cons rfl (fun K hK => ?_) AllReadyH.nil
          go_simp
          refine (stepF F6.out CU.out).mono ?_
          rintro e u5 ⟨rfl, hF⟩
          have F7 := hid hF
          clear hF F6 CU hHeld
          go_wp2_with fail
          refine hK.out _ _ (ZL.out _ _ F7.out) (fun hHeld => ?_)
          clear hK K
          try simp only [Act.put, List.getElem_toArray, List.getElem_cons_succ, List.getElem_cons_zero, List.setIfInBounds_toArray, List.set_cons_zero, List.set_cons_succ]
          refine wpAnyH_take (i := 11) (v := ?vv17) rfl (by kernel_rfl) (by kernel_rfl) (by kernel_rfl) (fun _ _ _ h => h) (Or.inl ⟨by rfl, ?hy17⟩) (by assumption) ?rest17
          case hy17 => (intro w hSw; (try dsimp only at hSw); go_simp; first | done | with_reducible rfl)
          try simp only [Act.put, List.getElem_toArray, List.getElem_cons_succ, List.getElem_cons_zero, List.setIfInBounds_toArray, List.set_cons_zero, List.set_cons_succ]
          refine wpAnyH_done (by kernel_rfl) ?_ _
          have FIN := hid (HST.out _ _ _ F7.out.e)
          clear F7 HST BX ZL hHeld
          go_wp2
          go_ret
          rw [HM4.out]
          exact ⟨rfl, FIN.out⟩
end Go.Proofs.YtefbioainibmaaaGreatDoor
namespace Go.Proofs.YtefbioainibmaaaGreatDoor
open Go.RowKit Go.Maps
set_option linter.unusedVariables false
set_option linter.unusedSimpArgs false

/-- blocks that are not the disk's may be told as another's -/
theorem DiskIs.recol {w : World} {c c' : Nat → Nat} {p : Nat} {d : Ds} (h : DiskIs w c p d) (hc : ∀ j, c j ≤ 6 → c' j = c j) : DiskIs w c' p d := by
  obtain ⟨R, h⟩ := h
  have e : ∀ j n, c j = n → n ≤ 6 → c' j = n := fun j n h1 h2 => (hc j (by omega)).trans h1
  have fil : ∀ mc mo L, mc ≤ 6 → FilIs w c mc mo L → FilIs w c' mc mo L := fun mc mo L hm f => ⟨f.map, fun b hb => e _ _ (f.mcol b hb) hm, f.row, fun x hx g hg => e _ _ (f.col x hx g hg) (by omega), f.apart, f.srt⟩
  refine ⟨R, h.row, e _ _ h.cp (by omega), fil _ _ _ (by omega) h.now, fil _ _ _ (by omega) h.sure, h.eS, h.eN, h.safe, h.wrow, fun g hg => e _ _ (h.wcol g hg) (by omega), ?_, h.unt, h.oks, h.wnil, h.xap⟩
  rcases h.fall with f | ⟨b, n, D, f, h1, h2, h3, h4, h5, h6, h7⟩
  · exact .inl f
  · refine .inr ⟨b, n, D, f, h1, e _ _ h2 (by omega), h3, h4, h5, h6, fun q => ?_⟩
    rcases h7 q with r | ⟨g, off, cap, r1, r2, r3⟩
    · exact .inl r
    · exact .inr ⟨g, off, cap, r1, e _ _ r2 (by omega), r3⟩
/-- bounds of segments that were read -/
def SgB (y : Sg) : Prop := 0 ≤ y.ix ∧ y.ix ≤ 1099511627776 ∧ 0 ≤ y.tm ∧ y.tm ≤ 1099511627776 ∧ y.es.length ≤ 8 ∧ y.ps.length = y.es.length + 1 ∧ 1 ≤ y.n ∧ y.n ≤ 4611686018427387903
theorem svB_of {l : List Sv} {ls : List Sg} (h : l.map Sv.sg = ls) (hs : ∀ y ∈ ls, SgB y) : ∀ y ∈ l, SvB y := fun y hy => by
  have := hs y.sg (by rw [← h]; exact List.mem_map_of_mem hy)
  exact this
theorem fdL_ok (rd : Int → Bs × Int) : ∀ (ns : List Int) (l : List Sg) (gs : List Int) (t : Bool), (∀ n ∈ ns, 1 ≤ n ∧ n ≤ 4611686018427387903) → (∀ y ∈ l, SgB y) → (∀ n ∈ gs, 1 ≤ n ∧ n ≤ 4611686018427387903) →
    (∀ y ∈ (fdL rd ns l gs t).st, SgB y) ∧ (∀ n ∈ (fdL rd ns l gs t).gs, 1 ≤ n ∧ n ≤ 4611686018427387903) ∧ (fdL rd ns l gs t).gs.length + (fdL rd ns l gs t).st.length ≤ ns.length + gs.length + l.length
  | [], l, gs, t, hn, hl, hg => ⟨hl, hg, by show gs.length + l.length ≤ 0 + gs.length + l.length; omega⟩
  | n :: r, l, gs, t, hn, hl, hg => by
    have hn0 := hn n (by simp)
    have hr : ∀ n ∈ r, 1 ≤ n ∧ n ≤ 4611686018427387903 := fun n h => hn n (by simp [h])
    have Z : ∀ e : Int, (∀ y ∈ (⟨[], [], false, e⟩ : FdP).st, SgB y) ∧ (∀ n ∈ (⟨[], [], false, e⟩ : FdP).gs, 1 ≤ n ∧ n ≤ 4611686018427387903) ∧ (⟨[], [], false, e⟩ : FdP).gs.length + (⟨[], [], false, e⟩ : FdP).st.length ≤ (n :: r).length + gs.length + l.length := fun e => ⟨fun y h => (by cases h), fun n h => (by cases h), by show 0 + 0 ≤ _; omega⟩
    rw [fdL_cons]
    unfold fdS
    split
    · exact Z _
    · split
      · exact Z _
      · rename_i he
        split
        · split
          · refine ⟨hl, fun m hm => ?_, by simp; omega⟩
            rcases List.mem_append.1 hm with hm | hm
            · exact hg m hm
            · rw [List.mem_singleton.1 hm]; exact hn0
          · exact Z _
        · rename_i hi
          have hok := rsG_ok (tx (rd n).1) (by simpa using he) (by simpa using hi)
          have hx : SgB (rgG n (rsG (tx (rd n).1))) := by unfold SgB rgG; simp only; omega
          split
          · exact Z _
          · split
            · have := fdL_ok rd r (l ++ [rgG n (rsG (tx (rd n).1))]) gs (decide ((rsG (tx (rd n).1)).ps.getLastD 0 < (((tx (rd n).1).size : Nat) : Int))) hr (fun y hy => by
                rcases List.mem_append.1 hy with hy | hy
                · exact hl y hy
                · rw [List.mem_singleton.1 hy]; exact hx) hg
              refine ⟨this.1, this.2.1, ?_⟩
              have h3 := this.2.2
              have e1 : (l ++ [rgG n (rsG (tx (rd n).1))]).length = l.length + 1 := by simp
              have e2 : (n :: r).length = r.length + 1 := rfl
              omega
            · have := fdL_ok rd r [rgG n (rsG (tx (rd n).1))] (gs ++ l.map (·.n)) (decide ((rsG (tx (rd n).1)).ps.getLastD 0 < (((tx (rd n).1).size : Nat) : Int))) hr (fun y hy => by
                rw [List.mem_singleton.1 hy]; exact hx) (fun m hm => by
                rcases List.mem_append.1 hm with hm | hm
                · exact hg m hm
                · obtain ⟨y, hy, rfl⟩ := List.mem_map.1 hm
                  have := hl y hy
                  unfold SgB at this; omega)
              refine ⟨this.1, this.2.1, ?_⟩
              have h3 := this.2.2
              have e1 : (gs ++ l.map (·.n)).length = gs.length + l.length := by simp
              have e2 : (n :: r).length = r.length + 1 := rfl
              have e3 : [rgG n (rsG (tx (rd n).1))].length = 1 := rfl
              omega
set_option maxRecDepth 100000 in
theorem wchgs_any (p : Nat) (c : Nat → Nat) (d : Ds) (w : World) (h : DiskIs w c p d) : Calls Tryz.prog 16 #[.pointer (some ⟨p, 0, none⟩)] w fun e w' => e = .returned (.int .i64 d.n) ∧ Left w c p d w' := by
  have c5 := h.cells.2.1
  have HL := hid (left_same h (Keep.refl _ _))
  clear h
  go_enter Tryz.func16, Tryz.ntmps16
  go_wp2
  go_ret
  exact ⟨rfl, HL.out⟩
theorem LgE.cell0 {w w' : World} {c : Nat → Nat} {B L p : Nat} {d : Ds} {tm vt : Int} {lost : Bool} {ls : List Sg} (h : LgE w c p d B L tm vt lost ls w') : w'.cell? ⟨L, 0, none⟩ = some (.pointer (some ⟨p, 0, none⟩)) := by
  obtain ⟨v, hb⟩ := h.bx
  exact hb.cellAt (o := 0) rfl
set_option maxRecDepth 100000 in
set_option maxHeartbeats 8000000 in
theorem mend_any {w : World} {c : Nat → Nat} {B L p : Nat} {d : Ds} {tm vt : Int} {lost : Bool} {v : Value} {l : List Sv} (h : LgD w c p d B L tm vt lost v l) (aS : Option Addr) (cs : Nat) (vg : Value) (P : FdP) (hst : l.map Sv.sg = P.st) (hg : IntsI w vg P.gs) (hgc : ∀ b, vg.ownBlock = some b → P.gs ≠ [] → 6 < c b) (hgb : ∀ n ∈ P.gs, 1 ≤ n ∧ n ≤ 4611686018427387903) (hlb : ∀ y ∈ l, SvB y) (hl : l.length ≤ 500000) (hgl : P.gs.length ≤ 500000) {K M : Nat} (hPI : PI d K M) (hK : K ≤ 1000000000000) (hM : M ≤ 50000000000) :
    Calls Tryz.prog 53 #[.pointer (some ⟨L, 0, none⟩), .agg #[.slice aS l.length cs, vg, .bool P.torn]] w fun e w' => e = .returned (.int .i64 (mdS d P).2.2) ∧ LgE w c p (mdS d P).1 B L tm vt lost (mdS d P).2.1 w' := by
  obtain ⟨ag, cg, rfl, -⟩ := hg.form
  obtain ⟨c1, g1, s1, n1⟩ := h.fresh (Keep.refl _ _)
  have k0 : Keep (fun _ => False) w (w.alloc (.cells #[.slice aS l.length cs, .slice ag P.gs.length cg, .bool P.torn] 103)) := keep_alloc _ _ _
  have F0 : Hid (LgF (w.alloc (.cells #[.slice aS l.length cs, .slice ag P.gs.length cg, .bool P.torn] 103)) c1 p d B L tm vt lost v l (w.alloc (.cells #[.slice aS l.length cs, .slice ag P.gs.length cg, .bool P.torn] 103))) := (g1.keep1 k0).f
  have HST : Hid (∀ (d' : Ds) (ls : List Sg) (W : World), LgE (w.alloc (.cells #[.slice aS l.length cs, .slice ag P.gs.length cg, .bool P.torn] 103)) c1 p d' B L tm vt lost ls W → LgE w c p d' B L tm vt lost ls W) := fun d' ls W hh => hh.trans (s1.keep1 k0)
  have BX0 := hid (srow w [.slice aS l.length cs, .slice ag P.gs.length cg, .bool P.torn] 103)
  have hcb : c1 w.heap.size = 8 := n1 _ (Nat.le_refl _)
  have BX : Hid (∀ d' W, LgF (w.alloc (.cells #[.slice aS l.length cs, .slice ag P.gs.length cg, .bool P.torn] 103)) c1 p d' B L tm vt lost v l W → RowIs W w.heap.size [.slice aS l.length cs, .slice ag P.gs.length cg, .bool P.torn] 103) := fun d' W hF => BX0.out.keep hF.kp (by omega)
  have MF : Hid (∀ W c2, (∀ j, j < (w.alloc (.cells #[.slice aS l.length cs, .slice ag P.gs.length cg, .bool P.torn] 103)).heap.size → c2 j = c1 j) → Keep (fun j => c1 j < 6) (w.alloc (.cells #[.slice aS l.length cs, .slice ag P.gs.length cg, .bool P.torn] 103)) W → LgD W c2 p d B L tm vt lost v l → Calls Tryz.prog 107 #[.pointer (some ⟨L, 0, none⟩), .agg #[.slice aS l.length cs, .slice ag P.gs.length cg, .bool P.torn]] W fun e w' => e = .returned (.int .i64 (mfS d P).2.2) ∧ LgE W c2 p (mfS d P).1 B L tm vt lost (mfS d P).2.1 w') := fun W c2 hc hk hD => by
    have hcol : ∀ b, (Value.slice ag P.gs.length cg).ownBlock = some b → P.gs ≠ [] → 6 < c1 b ∧ b < w.heap.size := fun b hb hn => by have h1 := hgc b hb hn; have h2 := s1.co b (hg.lt hb hn); exact ⟨by omega, hg.lt hb hn⟩
    exact mendFiles_any hD aS cs _ P hst ((hg.keepS k0 (fun _ _ _ h => h)).keepS hk (fun b hb hn e => by have := hcol b hb hn; omega)) (fun b hb hn => by have h1 := hcol b hb hn; rw [hc b (Nat.lt_of_lt_of_le h1.2 k0.size)]; exact h1.1) hgb hlb hl hgl hPI hK (by omega)
  have CH : Hid (∀ W c, DiskIs W c p d → Calls Tryz.prog 16 #[.pointer (some ⟨p, 0, none⟩)] W fun e w' => e = .returned (.int .i64 d.n) ∧ Left W c p d w') := fun W c D => wchgs_any p c d W D
  have CH2 : Hid (∀ W c, DiskIs W c p (mfS d P).1 → Calls Tryz.prog 16 #[.pointer (some ⟨p, 0, none⟩)] W fun e w' => e = .returned (.int .i64 (mfS d P).1.n) ∧ Left W c p (mfS d P).1 w') := fun W c D => wchgs_any p c _ W D
  have SY : Hid (∀ W c, DiskIs W c p (mfS d P).1 → Calls Tryz.prog 40 #[.pointer (some ⟨p, 0, none⟩)] W fun e w' => e = .returned (.int .i64 (synR (mfS d P).1).2) ∧ Left W c p (synR (mfS d P).1).1 w') := fun W c D => sync_all p c _ W D (by have := (mfS_PI hPI P).m; omega)
  have HM0 : Hid (mdS d P = if (mfS d P).2.2 ≠ 0 then mfS d P
    else if (mfS d P).1.n = d.n then ((mfS d P).1, (mfS d P).2.1, 0)
    else ((synR (mfS d P).1).1, (mfS d P).2.1, (synR (mfS d P).1).2)) := rfl
  clear h hg hgc hgb hlb hl hgl hPI hK hM g1 s1 n1 k0 hcb hst
  generalize mfS d P = A at *
  obtain ⟨d1, ls1, e1⟩ := A
  generalize mdS d P = R at *
  simp only at *
  generalize synR d1 = A2 at *
  obtain ⟨d2, e2⟩ := A2
  simp only at *
  have x0 := F0.out.lgi.bx.cellAt (o := 0) rfl
  go_enter Tryz.func53, Tryz.ntmps53
  go_wp2_with fail
  generalize w.alloc (.cells #[.slice aS l.length cs, .slice ag P.gs.length cg, .bool P.torn] 103) = w0 at *
  refine (stepF F0.out CH.out).mono ?_
  rintro e w1 ⟨rfl, hF1⟩
  have F1 := hid hF1
  clear F0 hF1 CH x0 BX0
  have b0 := (BX.out _ _ F1.out).cellAt (o := 0) rfl
  have b1 := (BX.out _ _ F1.out).cellAt (o := 1) rfl
  have b2 := (BX.out _ _ F1.out).cellAt (o := 2) rfl
  have MF1 : Hid (Calls Tryz.prog 107 #[.pointer (some ⟨L, 0, none⟩), .agg #[.slice aS l.length cs, .slice ag P.gs.length cg, .bool P.torn]] w1 fun e w' => e = .returned (.int .i64 e1) ∧ LgE w0 c1 p d1 B L tm vt lost ls1 w') := by
    obtain ⟨c2, h1, h2, h3⟩ := F1.out
    exact (MF.out w1 c2 h2 h3 h1).mono fun e w' ⟨he, hE⟩ => ⟨he, hE.trans ⟨h2, h3.mono (fun j _ hj => .inl hj)⟩⟩
  clear MF F1 BX
  go_wp2_with fail
  refine MF1.out.mono ?_
  rintro e w2 ⟨rfl, hE⟩
  have E2 := hid hE
  clear MF1 hE b0 b1 b2
  by_cases he1 : e1 = 0
  case neg =>
    have hne : (e1 != 0) = true := by simp [he1]
    obtain rfl : R = (d1, ls1, e1) := HM0.out.trans (if_pos he1)
    have FIN := hid (HST.out _ _ _ E2.out)
    clear HM0 CH2 SY E2 HST
    go_wp2
    go_ret
    exact ⟨rfl, FIN.out⟩
  subst he1
  have HM1 := hid (HM0.out.trans (if_neg (fun h => h rfl)))
  have x0 := E2.out.cell0
  clear HM0
  go_wp2_with fail
  refine (stepGD E2.out CH2.out).mono ?_
  rintro e w3 ⟨rfl, hE⟩
  have E3 := hid hE
  clear E2 hE x0 CH2
  by_cases hn : d1.n = d.n
  · have z1 : ((d1.n : Int) == (d.n : Int)) = true := by rw [hn]; simp
    obtain rfl : R = (d1, ls1, 0) := HM1.out.trans (if_pos hn)
    have FIN := hid (HST.out _ _ _ E3.out)
    clear HM1 SY E3 HST hn
    go_wp2
    go_ret
    exact ⟨rfl, FIN.out⟩
  · have z1 : ((d1.n : Int) == (d.n : Int)) = false := beq_eq_false_iff_ne.2 (by omega)
    obtain rfl : R = (d2, ls1, e2) := HM1.out.trans (if_neg hn)
    have x0 := E3.out.cell0
    clear HM1 hn
    go_wp2_with fail
    refine (stepGD E3.out SY.out).mono ?_
    rintro e w4 ⟨rfl, hE⟩
    have FIN := hid (HST.out _ _ _ hE)
    clear E3 hE x0 SY HST
    go_wp2
    go_ret
    exact ⟨rfl, FIN.out⟩
end Go.Proofs.YtefbioainibmaaaGreatDoor
namespace Go.Proofs.YtefbioainibmaaaGreatDoor
open Go.RowKit Go.Maps
set_option linter.unusedVariables false
set_option linter.unusedSimpArgs false

structure OpR where
  d : Ds
  tm : Int
  vt : Int
  ls : List Sg
  e : Int
/-- what a disk's segments say -/
def fdP (d : Ds) : FdP := fdL (fun n => rdD d (fnB n)) (srt (nbsOf d.now)) [] [] false
/-- what opening makes of a disk, and what is found -/
def opW (d : Ds) : OpR :=
  if (rhR (rdD d hrd)).e ≠ 0 then ⟨d, 0, 0, [], (rhR (rdD d hrd)).e⟩
  else if (fdP d).e ≠ 0 then ⟨d, 0, 0, [], (fdP d).e⟩
  else ⟨(mdS d (fdP d)).1, (rhR (rdD d hrd)).tm, (rhR (rdD d hrd)).vt, (mdS d (fdP d)).2.1, (mdS d (fdP d)).2.2⟩
def lpV (L : Nat) (e : Int) : Value := if e = 0 then .pointer (some ⟨L, 0, none⟩) else .pointer none
def c78 (c : Nat → Nat) : Nat → Nat := fun j => if c j = 8 then 7 else c j
/-- what Open leaves -/
def OpPost (w : World) (c : Nat → Nat) (p : Nat) (R : OpR) (e : Ending) (w' : World) : Prop :=
  ∃ L, e = .returned (.tuple #[lpV L R.e, .int .i64 R.e]) ∧ Left w c p R.d w' ∧ (R.e = 0 → w.heap.size ≤ L ∧ ∃ c2 v l, LgD w' c2 p R.d w.heap.size L R.tm R.vt false v l ∧ l.map Sv.sg = R.ls ∧ ∀ j, j < w.heap.size → c2 j = c78 c j)
theorem open_left {w wi w' : World} {c c2 : Nat → Nat} {p : Nat} {d : Ds} (D : DiskIs w' c2 p d) (hc : ∀ j, j < w.heap.size → c2 j = c78 c j) (k : Keep (fun j => c j < 6) w w') : Left w c p d w' := by
  refine ⟨⟨fun j => if j < w.heap.size then c j else c2 j, D.recol (fun j hj => ?_), fun j hj => if_pos hj⟩, k⟩
  by_cases hlt : j < w.heap.size
  · have h1 := hc j hlt
    show (if j < w.heap.size then c j else c2 j) = c2 j
    rw [if_pos hlt, h1]
    unfold c78 at h1 ⊢
    by_cases h8 : c j = 8
    · rw [if_pos h8] at h1; omega
    · rw [if_neg h8]
  · exact if_neg hlt
set_option maxRecDepth 100000 in
set_option maxHeartbeats 8000000 in
theorem wopen_up (p : Nat) (c : Nat → Nat) (d : Ds) (w : World) (h : DiskIs w c p d) (hdn : d.dn = false) (hl : d.now.length ≤ 500000) (hnm : ∀ y ∈ d.now, y.1.length ≤ 80) (hz : ∀ n, (rdD d n).1.length ≤ 1000000000) (hG : GV w) (hgc : ∀ g, IsGV g → c g = 7) {K M : Nat} (hPI : PI d K M) (hK : K ≤ 1000000000000) (hM : M ≤ 50000000000) :
    Calls Tryz.prog 10 #[.pointer (some ⟨p, 0, none⟩)] w fun e w' => OpPost w c p (opW d) e w' := by
  have hD := h.down
  rw [hdn] at hD
  have HD := hid (down_any _ false w hD)
  have D7 : DiskIs w (c78 c) p d := h.recol (fun j hj => if_neg (by omega))
  have DK : Hid (∀ W, Keep (fun _ => False) w W → DiskIs W (c78 c) p d) := fun W k => D7.keep k (fun _ _ => rfl) (fun _ _ h => h.elim)
  have HGV : Hid (∀ W, Keep (fun _ => False) w W → GV W) := fun W k => hG.keep k
  have RH := hid (readHard_any p (c78 c) d w D7 (hz hrd))
  have FD : Hid (∀ W, Keep (fun _ => False) w W → Calls Tryz.prog 52 #[.pointer (some ⟨p, 0, none⟩)] W fun e w' => FnPost W (fdP d) e w') := fun W k => wfind_any p (c78 c) d W (DK.out W k) hdn hl hnm hz (HGV.out W k)
  have hfo := fdL_ok (fun n => rdD d (fnB n)) (srt (nbsOf d.now)) [] [] false srt_ok (fun _ h => by cases h) (fun _ h => by cases h)
  have hns : (srt (nbsOf d.now)).length ≤ 500000 := by rw [srt_len]; exact Nat.le_trans (List.length_filterMap_le _ _) hl
  have HFO : Hid ((∀ y ∈ (fdP d).st, SgB y) ∧ (∀ n ∈ (fdP d).gs, 1 ≤ n ∧ n ≤ 4611686018427387903) ∧ (fdP d).gs.length + (fdP d).st.length ≤ 500000) := ⟨hfo.1, hfo.2.1, by have := hfo.2.2; simp only [List.length_nil] at this; show (fdL _ _ _ _ _).gs.length + (fdL _ _ _ _ _).st.length ≤ _; omega⟩
  -- the log in memory, ahead of mending
  have GC : Hid (∀ (W : World) (L : Nat) (tm vt : Int) (v : Value) (l : List Sv) (W0 : World), Keep (fun _ => False) w W0 → Keep (fun _ => False) W0 W → w.heap.size ≤ L → LogI W w.heap.size L p tm vt false v l → LgD W (fun j => if j < w.heap.size then c78 c j else 8) p d w.heap.size L tm vt false v l) := fun W L tm vt v l W0 k0 k1 hL hI => by
    have k := k0.trans k1
    have hgv := hG.keepS k (fun _ _ h => h)
    have h8 : ∀ j, w.heap.size ≤ j → (fun j => if j < w.heap.size then c78 c j else 8) j = 8 := fun j hj => if_neg (by omega)
    have hv : ∀ g, v.ownBlock = some g → w.heap.size ≤ g := fun g hg => hI.sg.row.ge hg
    have hs : ∀ x ∈ l, ∀ g, x.ve.ownBlock = some g ∨ x.vp.ownBlock = some g → w.heap.size ≤ g := fun x hx g hg => (hI.sg.sg x hx).ge hg
    refine ⟨⟨D7.keep k (fun j hj => if_pos hj) (fun _ _ h => h.elim), hI, ?_, fun g hg => ?_, fun x hx g hg => ?_⟩, h8 L hL, fun g hg => h8 g (hv g hg), fun x hx g hg => h8 g (hs x hx g hg), hgv.1, fun g hg => ?_, k.size⟩
    · exact Nat.lt_of_lt_of_eq (by decide) (h8 L hL).symm
    · exact Nat.lt_of_lt_of_eq (by decide) (h8 g (hv g hg)).symm
    · exact Nat.lt_of_lt_of_eq (by decide) (h8 g (hs x hx g hg)).symm
    · refine (if_pos (hgv.2 g hg)).trans ?_
      unfold c78
      rw [hgc g hg]; rfl
  have MD : Hid (∀ (W : World) (c1 : Nat → Nat) (L : Nat) (tm vt : Int) (v : Value) (l : List Sv) (aS : Option Addr) (cs : Nat) (vg : Value), LgD W c1 p d w.heap.size L tm vt false v l → l.map Sv.sg = (fdP d).st → IntsI W vg (fdP d).gs → (∀ b, vg.ownBlock = some b → (fdP d).gs ≠ [] → 6 < c1 b) → Calls Tryz.prog 53 #[.pointer (some ⟨L, 0, none⟩), .agg #[.slice aS l.length cs, vg, .bool (fdP d).torn]] W fun e w' => e = .returned (.int .i64 (mdS d (fdP d)).2.2) ∧ LgE W c1 p (mdS d (fdP d)).1 w.heap.size L tm vt false (mdS d (fdP d)).2.1 w') := fun W c1 L tm vt v l aS cs vg hD hst hi hc => by
    have hll : l.length = (fdP d).st.length := by rw [← hst, List.length_map]
    exact mend_any hD aS cs vg (fdP d) hst hi hc HFO.out.2.1 (svB_of hst HFO.out.1) (by have := HFO.out.2.2; omega) (by have := HFO.out.2.2; omega) hPI hK hM
  have HO : Hid (opW d = if (rhR (rdD d hrd)).e ≠ 0 then ⟨d, 0, 0, [], (rhR (rdD d hrd)).e⟩
    else if (fdP d).e ≠ 0 then ⟨d, 0, 0, [], (fdP d).e⟩
    else ⟨(mdS d (fdP d)).1, (rhR (rdD d hrd)).tm, (rhR (rdD d hrd)).vt, (mdS d (fdP d)).2.1, (mdS d (fdP d)).2.2⟩) := rfl
  have LF : Hid (∀ W, Keep (fun _ => False) w W → Left w c p d W) := fun W k => left_same h k
  clear h hdn hl hnm hz hG hgc hPI hK hM hD D7 hfo hns DK HFO
  generalize opW d = R at *
  generalize rhR (rdD d hrd) = H at *
  generalize mdS d (fdP d) = A at *
  generalize fdP d = P at *
  obtain ⟨htm, hvt, he⟩ := H
  obtain ⟨d1, ls1, e1⟩ := A
  obtain ⟨pst, pgs, ptorn, pe⟩ := P
  simp only at *
  go_enter Tryz.func10, Tryz.ntmps10
  go_wp2_with fail
  refine HD.out.mono ?_
  rintro e w9 ⟨rfl, rfl⟩
  clear HD
  go_wp2_with fail
  refine RH.out.mono ?_
  rintro e w1 ⟨rfl, k1⟩
  have K1 : Hid (Keep (fun _ => False) w9 (w1.alloc (.cells #[.int .i64 htm, .int .i64 hvt] 98))) := k1.trans (keep_alloc _ _ _)
  have RB := hid (srow w1 [.int .i64 htm, .int .i64 hvt] 98)
  clear RH k1
  by_cases hhe : he = 0
  case neg =>
    have hne : (he != 0) = true := by simp [hhe]
    obtain rfl : R = ⟨d, 0, 0, [], he⟩ := HO.out.trans (if_pos hhe)
    have FIN := hid (LF.out _ K1.out)
    clear HO FD GC MD LF RB
    go_wp2
    go_ret2
    exact ⟨0, (show Ending.returned (.tuple #[.pointer none, .int .i64 he]) = Ending.returned (.tuple #[lpV 0 he, .int .i64 he]) from by rw [show lpV 0 he = .pointer none from if_neg hhe]), FIN.out, fun h => absurd h hhe⟩
  subst hhe
  have HO1 := hid (HO.out.trans (if_neg (fun h => h rfl)))
  clear HO
  go_wp2_with fail
  generalize w1.alloc (.cells #[.int .i64 htm, .int .i64 hvt] 98) = W1 at *
  refine (FD.out _ K1.out).mono ?_
  rintro e w2 ⟨l, vs, vg, rfl, hst, hsg, hog, k2⟩
  simp only at hst hog
  obtain ⟨aS, cs, rfl⟩ := hsg.row.form
  obtain ⟨ag, cg, rfl⟩ := row_form hog
  have K2 : Hid (Keep (fun _ => False) w9 (w2.alloc (.cells #[.slice aS l.length cs, .slice ag pgs.length cg, .bool ptorn] 103))) := (K1.out.trans k2).trans (keep_alloc _ _ _)
  have FB := hid (srow w2 [.slice aS l.length cs, .slice ag pgs.length cg, .bool ptorn] 103)
  have RB2 : Hid (RowIs (w2.alloc (.cells #[.slice aS l.length cs, .slice ag pgs.length cg, .bool ptorn] 103)) w1.heap.size [.int .i64 htm, .int .i64 hvt] 98) := row_old (RB.out.keep k2 (fun h => h)) _
  have SG : Hid (SgsI (w2.alloc (.cells #[.slice aS l.length cs, .slice ag pgs.length cg, .bool ptorn] 103)) w9.heap.size (.slice aS l.length cs) l) := (hsg.next (below_al (Below.refl _ _) _)).base K1.out.size
  have GI : Hid (IntsI (w2.alloc (.cells #[.slice aS l.length cs, .slice ag pgs.length cg, .bool ptorn] 103)) (.slice ag pgs.length cg) pgs ∧ ∀ b, (Value.slice ag pgs.length cg).ownBlock = some b → w9.heap.size ≤ b) := ⟨(ORow.ints (.inl hog)).next (below_al (Below.refl _ _) _), fun b hb => Nat.le_trans K1.out.size (ownsRow_ge hog hb)⟩
  have HST := hid hst
  clear FD K1 RB hsg hog k2 hst
  by_cases hpe : pe = 0
  case neg =>
    have hne : (pe != 0) = true := by simp [hpe]
    obtain rfl : R = ⟨d, 0, 0, [], pe⟩ := HO1.out.trans (if_pos hpe)
    have FIN := hid (LF.out _ K2.out)
    clear HO1 GC MD LF FB RB2 SG GI
    go_wp2
    go_ret2
    exact ⟨0, (show Ending.returned (.tuple #[.pointer none, .int .i64 pe]) = Ending.returned (.tuple #[lpV 0 pe, .int .i64 pe]) from by rw [show lpV 0 pe = .pointer none from if_neg hpe]), FIN.out, fun h => absurd h hpe⟩
  subst hpe
  obtain rfl : R = ⟨d1, htm, hvt, ls1, e1⟩ := HO1.out.trans (if_neg (fun h => h rfl))
  have f0 := FB.out.cellAt (o := 0) rfl
  have f1 := FB.out.cellAt (o := 1) rfl
  have f2 := FB.out.cellAt (o := 2) rfl
  have r0 := RB2.out.cellAt (o := 0) rfl
  have r1 := RB2.out.cellAt (o := 1) rfl
  have FB3 := row_old FB.out (.cells #[.pointer (some ⟨p, 0, none⟩), .int .i64 htm, .int .i64 hvt, .slice aS l.length cs, .bool false] 107)
  have g0 := FB3.cellAt (o := 0) rfl
  have g1 := FB3.cellAt (o := 1) rfl
  have g2 := FB3.cellAt (o := 2) rfl
  have K3 : Hid (Keep (fun _ => False) (w2.alloc (.cells #[.slice aS l.length cs, .slice ag pgs.length cg, .bool ptorn] 103)) ((w2.alloc (.cells #[.slice aS l.length cs, .slice ag pgs.length cg, .bool ptorn] 103)).alloc (.cells #[.pointer (some ⟨p, 0, none⟩), .int .i64 htm, .int .i64 hvt, .slice aS l.length cs, .bool false] 107))) := keep_alloc _ _ _
  have LI : Hid (LogI ((w2.alloc (.cells #[.slice aS l.length cs, .slice ag pgs.length cg, .bool ptorn] 103)).alloc (.cells #[.pointer (some ⟨p, 0, none⟩), .int .i64 htm, .int .i64 hvt, .slice aS l.length cs, .bool false] 107)) w9.heap.size (w2.heap.size + 1) p htm hvt false (.slice aS l.length cs) l) := by
    have h1 := srow (w2.alloc (.cells #[.slice aS l.length cs, .slice ag pgs.length cg, .bool ptorn] 103)) [.pointer (some ⟨p, 0, none⟩), .int .i64 htm, .int .i64 hvt, .slice aS l.length cs, .bool false] 107
    rw [show (w2.alloc (.cells #[.slice aS l.length cs, .slice ag pgs.length cg, .bool ptorn] 103)).heap.size = w2.heap.size + 1 by simp] at h1
    exact ⟨h1, SG.out.next (below_al (Below.refl _ _) _)⟩
  have HLO : Hid (w9.heap.size ≤ w2.heap.size + 1) := by have := K2.out.size; show _ ≤ _; simp at this; exact this
  have G3 := hid (GC.out _ _ _ _ _ _ _ K2.out K3.out HLO.out LI.out)
  have MD3 := hid (MD.out _ _ _ _ _ _ _ aS cs (.slice ag pgs.length cg) G3.out HST.out (GI.out.1.keepS K3.out (fun _ _ _ h => h)) (fun b hb _ => by have := GI.out.2 b hb; show 6 < (if b < w9.heap.size then c78 c b else 8); rw [if_neg (by omega)]; omega))
  have K23 := hid (K2.out.trans K3.out)
  clear HO1 GC MD LF FB RB2 SG GI LI G3 FB3 K2 K3 HST
  go_wp2_with fail
  generalize (w2.alloc (.cells #[.slice aS l.length cs, .slice ag pgs.length cg, .bool ptorn] 103)).alloc (.cells #[.pointer (some ⟨p, 0, none⟩), .int .i64 htm, .int .i64 hvt, .slice aS l.length cs, .bool false] 107) = W3 at *
  refine MD3.out.mono ?_
  rintro e w4 ⟨rfl, c2, v2, l2, hL, hls, st⟩
  have FIN : Hid (Left w9 c p d1 w4 ∧ w9.heap.size ≤ w2.heap.size + 1 ∧ ∃ c2 v l, LgD w4 c2 p d1 w9.heap.size (w2.heap.size + 1) htm hvt false v l ∧ l.map Sv.sg = ls1 ∧ ∀ j, j < w9.heap.size → c2 j = c78 c j) := by
    have hco : ∀ j, j < w9.heap.size → c2 j = c78 c j := fun j hj => (st.co j (Nat.lt_of_lt_of_le hj K23.out.size)).trans (if_pos hj)
    refine ⟨open_left (wi := w9) hL.lg.dk hco ((K23.out.mono (T := fun j => c j < 6) (fun _ _ h => h.elim)).then st.kp (fun j hj e => ?_)), HLO.out, c2, v2, l2, hL, hls, hco⟩
    rw [if_pos hj] at e
    unfold c78 at e
    split at e <;> omega
  clear MD3 hL hls st K23 HLO f0 f1 f2 r0 r1 g0 g1 g2
  by_cases he1 : e1 = 0
  · subst he1
    go_wp2
    go_ret2
    exact ⟨w2.heap.size + 1, rfl, FIN.out.1, fun _ => FIN.out.2⟩
  · have hne : (e1 != 0) = true := by simp [he1]
    go_wp2
    go_ret2
    exact ⟨0, (show Ending.returned (.tuple #[.pointer none, .int .i64 e1]) = Ending.returned (.tuple #[lpV 0 e1, .int .i64 e1]) from by rw [show lpV 0 e1 = .pointer none from if_neg he1]), FIN.out.1, fun h => absurd h he1⟩
end Go.Proofs.YtefbioainibmaaaGreatDoor
