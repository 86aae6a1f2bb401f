/- Joined: A log that ends ahead of an index. Parts of a slice of entries; bounds of segments as plain data; budgets. What laying makes of segments, as plain data: bounds and budgets. Entries in the place of all that stands behind an index, as plain data. -/
import Derived.Test.YtefbioainibmaaaGreatDoorJoined26
namespace Go.Proofs.YtefbioainibmaaaGreatDoor
open Go.RowKit Go.Maps
set_option linter.unusedVariables false
set_option linter.unusedSimpArgs false

theorem ORow.form1 {w : World} {B t k n : Nat} {v : Value} {xs : List Value} (h : ORow w B t k v n xs) (h0 : 0 < n) : ∃ g cap, v = .slice (some ⟨g, 0, none⟩) n cap ∧ n ≤ cap := by
  rcases h with h | ⟨_, g, cs, e, _⟩
  · rcases h.2 with ⟨_, e⟩ | ⟨g, cap, cur, e, _, _, h1, _⟩
    · omega
    · exact ⟨g, cap, e, h1⟩
  · exact ⟨g, n, e, Nat.le_refl _⟩
theorem ensC_take : ∀ (l : List En) (n : Nat), (ensC l).take (n * 3) = ensC (l.take n)
  | [], n => by simp [ensC]
  | x :: r, 0 => by simp [ensC]
  | x :: r, n + 1 => by
    show (enC x ++ ensC r).take ((n + 1) * 3) = enC x ++ ensC (r.take n)
    rw [List.take_append, show (n + 1) * 3 - (enC x).length = n * 3 by simp [enC]; omega, ensC_take r n, List.take_of_length_le (by simp [enC]; omega)]
theorem isC_take (l : List Int) (n : Nat) : (isC l).take (n * 1) = isC (l.take n) := by simp [isC, List.map_take]
theorem svsC_take : ∀ (l : List Sv) (n : Nat), (svsC l).take (n * 5) = svsC (l.take n)
  | [], n => by simp [svsC]
  | x :: r, 0 => by simp [svsC]
  | x :: r, n + 1 => by
    show (svC x ++ svsC r).take ((n + 1) * 5) = svC x ++ svsC (r.take n)
    rw [List.take_append, show (n + 1) * 5 - (svC x).length = n * 5 by simp [svC, sgC]; omega, svsC_take r n, List.take_of_length_le (by simp [svC, sgC]; omega)]
/-- the last segment left out -/
theorem SgsI.cut {w : World} {B : Nat} {ad : Option Addr} {N cap m : Nat} {l0 : List Sv} {y : Sv} (h : SgsI w B (.slice ad N cap) (l0 ++ [y])) (hm : l0.length = m) (hN : m + 1 = N) (hl : N ≤ 1048576) : SgsI w B (.slice ad m m) l0 := by
  have hr := h.row
  rw [show (l0 ++ [y]).length = N by simp; omega] at hr
  have hc := hr.cut m (by omega) hl
  rw [svsC_take, List.take_left' hm] at hc
  refine ⟨by rw [hm]; exact hc, fun x hx => h.sg x (List.mem_append_left _ hx), (List.pairwise_append.1 h.ae).1, (List.pairwise_append.1 h.ai).1⟩
theorem eaS_last {at_ : Int} {y0 y : Sg} {k : Nat} {d : Ds} {r : List Sg} (h : ¬ at_ - 1 ≤ y.ix) : eaS at_ y0 (k + 1) d (r ++ [y]) = ctS d (y0 :: r) y at_ := by
  unfold eaS
  simp [h]
theorem eaS_rm {at_ : Int} {y0 y : Sg} {k : Nat} {d : Ds} {r : List Sg} (h : at_ - 1 ≤ y.ix) : eaS at_ y0 (k + 1) d (r ++ [y]) = if (rmD d (fnB y.n)).2 = 0 then eaS at_ y0 k (rmD d (fnB y.n)).1 r else ((rmD d (fnB y.n)).1, y0 :: (r ++ [y]), (rmD d (fnB y.n)).2) := by
  conv => lhs; unfold eaS
  simp [h]
/-- what the loop over the segments that are taken away keeps -/
def EaR (w : World) (c : Nat → Nat) (p B L : Nat) (tm vt : Int) (lost : Bool) (at_ : Int) (y0 : Sv) (K M R0 : Nat) (P : Ds × List Sg × Int) (gk : Nat) (wr : World) : Prop :=
  ∃ (r : List Sv) (dk : Ds) (ck : Nat → Nat) (vk : Value) (j : Nat), r.length ≤ gk ∧ r.length + j ≤ R0 ∧ (∀ y ∈ y0 :: r, SvO y) ∧ P = eaS at_ y0.sg (r.length + 1) dk (r.map Sv.sg) ∧ PI dk (K + j) (M + j) ∧ LgD wr ck p dk B L tm vt lost vk (y0 :: r) ∧ Stp w c wr ck
theorem cons_snoc {α : Type} (a : α) (r : List α) : ∃ l y, a :: r = l ++ [y] ∧ (r = [] → l = [] ∧ y = a) ∧ (r ≠ [] → ∃ r1, l = a :: r1 ∧ r = r1 ++ [y]) := by
  rcases List.eq_nil_or_concat r with rfl | ⟨r1, y, rfl⟩
  · exact ⟨[], a, rfl, fun _ => ⟨rfl, rfl⟩, fun h => absurd rfl h⟩
  · exact ⟨a :: r1, y, by simp, fun h => by simp at h, fun _ => ⟨r1, rfl, by simp⟩⟩
set_option maxRecDepth 100000 in
set_option maxHeartbeats 8000000 in
theorem endAhead_any {w : World} {c : Nat → Nat} {B L p : Nat} {d : Ds} {tm vt : Int} {lost : Bool} {v : Value} {y0 : Sv} {r0 : List Sv} (h : LgD w c p d B L tm vt lost v (y0 :: r0)) (at_ : Int) (ha0 : y0.ix < at_) (ha1 : at_ ≤ 4611686018427387904) (hso : ∀ y ∈ y0 :: r0, SvO y) (hl : r0.length ≤ 500000) {K M : Nat} (hPI : PI d K M) (hK : K ≤ 1000000000000) (hM : M ≤ 60000000000) :
    Calls Tryz.prog 113 #[.pointer (some ⟨L, 0, none⟩), .int .i64 at_] w fun e w' => e = .returned (.int .i64 (eaS at_ y0.sg (r0.length + 1) d (r0.map Sv.sg)).2.2) ∧ LgE w c p (eaS at_ y0.sg (r0.length + 1) d (r0.map Sv.sg)).1 B L tm vt lost (eaS at_ y0.sg (r0.length + 1) d (r0.map Sv.sg)).2.1 w' := by
  obtain ⟨P, hP⟩ : ∃ P, P = eaS at_ y0.sg (r0.length + 1) d (r0.map Sv.sg) := ⟨_, rfl⟩
  rw [← hP]
  have E0 : Hid (EaR w c p B L tm vt lost at_ y0 K M r0.length P r0.length w) := ⟨r0, d, c, v, 0, Nat.le_refl _, by omega, hso, hP, hPI, h, Stp.refl _ _⟩
  have HAT : Hid (y0.ix < at_ ∧ at_ ≤ 4611686018427387904 ∧ 0 ≤ y0.ix) := ⟨ha0, ha1, (hso y0 (by simp)).1⟩
  have HKM : Hid (K ≤ 1000000000000 ∧ M ≤ 60000000000 ∧ r0.length ≤ 500000) := ⟨hK, hM, hl⟩
  clear h ha0 ha1 hso hl hPI hK hM hP
  go_enter Tryz.func113, Tryz.ntmps113
  go_wp2_with fail
  go_loopg [] r0.length (fun gk wr => Hid (EaR w c p B L tm vt lost at_ y0 K M r0.length P gk wr))
  case atStart => exact E0
  case round =>
    clear E0
    obtain ⟨r, dk, ck, vk, j, hgk, hrj, hso, hpe, hpi, hG, hS⟩ := hrel.out
    have HGK := hid hgk
    have HRJ := hid hrj
    have HSO := hid hso
    have HPE := hid hpe
    have HPI := hid hpi
    have SX := hid hS
    have GX0 := hid hG
    clear hrel hgk hrj hso hpe hpi hS hG
    obtain ⟨l0, y, hly, hl1, hl2⟩ := cons_snoc y0 r
    have HLY := hid hly
    have HL1 := hid hl1
    have HL2 := hid hl2
    have hlen : l0.length = r.length := by have := congrArg List.length hly; simpa using this.symm
    have GX1 : Hid (LgD wr ck p dk B L tm vt lost vk (l0 ++ [y])) := by show LgD _ _ _ _ _ _ _ _ _ _ _; rw [← hly]; exact GX0.out
    have SO : Hid (SvO y) := HSO.out y (by rw [hly]; simp)
    obtain ⟨m, hm⟩ : ∃ m, l0.length = m := ⟨_, rfl⟩
    obtain ⟨N, hN⟩ : ∃ N, m + 1 = N := ⟨_, rfl⟩
    have HM := hid hm
    have HNM := hid hN
    have HRM : Hid (r.length = m) := by show _ = _; omega
    have HNL : Hid (l0.length ≤ 500000) := by have := HRJ.out; have := HKM.out.2.2; show _ ≤ _; omega
    obtain ⟨g, cap, hv⟩ := GX1.out.lg.lg.sg.row.form0 (by simp)
    rw [List.length_append, hm, List.length_singleton, hN] at hv
    subst hv
    have GX := GX1
    have c3l := GX.out.lg.lg.bx.cellAt (o := 3) rfl
    have HDM : Hid (dk.wt + dk.S.length + dk.ws.length + 1000 ≤ 70368744177) := by have h1 := HPI.out.m; have := HRJ.out; have := HKM.out; show _ ≤ _; omega
    have HDN : Hid (dk.n ≤ 1152921504606846976) := by have h1 := HPI.out.n; have := HRJ.out; have := HKM.out; show _ ≤ _; omega
    have q0 : (N : Int) - 1 = (m : Int) := by omega
    have q1 : (m : Int) < (N : Int) := by omega
    have q2 : (0 : Int) ≤ (m : Int) := by omega
    have q3 : (N : Int) ≤ 1048576 := by have := HNL.out; omega
    have q5 : IntKind.i64.wrap (m : Int) = (m : Int) := by have := HNL.out; rw [IntKind.wrap_i64]; omega
    clear GX1 hly hl1 hl2
    by_cases hz : r.length = 0
    · have hr0 : r = [] := List.length_eq_zero_iff.1 hz
      obtain ⟨e1, e2⟩ := HL1.out hr0
      have HCT : Hid (P = ctS dk (l0.map Sv.sg) y.sg at_) := by show _ = _; rw [HPE.out, hr0, e1, e2]; rfl
      have HAX : Hid (y.ix < at_ ∧ at_ ≤ 4611686018427387904 ∧ 0 ≤ y.ix) := by rw [e2]; exact HAT.out
      have d1 : decide ((N : Int) > 1) = false := decide_eq_false (by omega)
      have d2 : decide (N > 1) = false := decide_eq_false (by omega)
      clear HPE hr0 e1 e2 HL1 HL2 HLY GX0 HSO hlen hm hN hz HRM
      obtain ⟨wc, hwc⟩ : ∃ wc, wc = wr := ⟨_, rfl⟩
      subst hwc
      obtain ⟨i0, i1, i2, i3, i4, i5, i6, i7, i8, i9, i10⟩ := SO.out
      obtain ⟨c1, g1, s1, n1⟩ := GX.out.fresh (Keep.refl _ _)
      have G1 := hid g1
      have S1 := hid (SX.out.trans s1)
      have N1 := hid n1
      have hym : y ∈ l0 ++ [y] := by simp
      have LAST : Hid (∀ W, LogI W B L p tm vt lost (.slice (some ⟨g, 0, none⟩) N cap) (l0 ++ [y]) → Calls Tryz.prog 63 #[.pointer (some ⟨L, 0, none⟩)] W fun e w' => e = .returned (.agg #[.int .i64 y.n, .int .i64 y.ix, .int .i64 y.tm, y.ve, y.vp]) ∧ Below W.heap.size W w') := fun W hI => wlast_any hI m (by simp [HM.out]) (by have := HNL.out; have := HM.out; simp; omega) y (by simp [← HM.out])
      obtain ⟨n, hn⟩ : ∃ n : Nat, at_ - 1 - y.ix = (n : Int) := ⟨(at_ - 1 - y.ix).toNat, by have := HAX.out; omega⟩
      have HCT1 : Hid (P = if (y.es.length : Int) ≤ at_ - 1 - y.ix then (dk, l0.map Sv.sg ++ [y.sg], 0) else ((cuD dk (fnB y.n) (fsG y.sg (at_ - 1 - y.ix).toNat).sz).1, if (cuD dk (fnB y.n) (fsG y.sg (at_ - 1 - y.ix).toNat).sz).2 = 0 then l0.map Sv.sg ++ [fsG y.sg (at_ - 1 - y.ix).toNat] else l0.map Sv.sg ++ [y.sg], (cuD dk (fnB y.n) (fsG y.sg (at_ - 1 - y.ix).toNat).sz).2)) := HCT.out
      have ha2 : at_ - 1 - y.ix = (n : Int) := hn
      have hw1 : wrap64 (at_ - 1) = at_ - 1 := IntWalk.wrap64_in _ (by have := HAX.out; omega)
      have hw2 : IntKind.i64.wrap (at_ - 1) = at_ - 1 := by have := HAX.out; rw [IntKind.wrap_i64]; omega
      have hw3 : IntKind.i64.wrap (n : Int) = (n : Int) := by have := HAX.out; rw [IntKind.wrap_i64]; omega
      have hfd1 : ∀ W : World, (Instr.field 126 (.agg #[.int .i64 y.n, .int .i64 y.ix, .int .i64 y.tm, y.ve, y.vp]) 1).run Tryz.prog W = .ok (.int .i64 y.ix) W := fun _ => by kernel_rfl
      have hfd3 : ∀ W : World, (Instr.field 126 (.agg #[.int .i64 y.n, .int .i64 y.ix, .int .i64 y.tm, y.ve, y.vp]) 3).run Tryz.prog W = .ok y.ve W := fun _ => by kernel_rfl
      have hyi := g1.lg.lg.sg.sg y hym
      obtain ⟨pg, pcap, hvp, hpc⟩ := hyi.oi.form1 (by omega)
      have HVP := hid hvp
      have HPC := hid hpc
      clear g1 s1 n1 HCT hvp hpc
      by_cases hle : (y.es.length : Int) ≤ (n : Int)
      · obtain ⟨ea, ec, hve⟩ := hyi.oe.form
        have HR : Hid (P = (dk, l0.map Sv.sg ++ [y.sg], 0)) := HCT1.out.trans (if_pos (by rw [hn]; exact hle))
        have g1 : decide ((y.es.length : Int) ≤ (n : Int)) = true := decide_eq_true hle
        have g2 : decide (y.es.length ≤ n) = true := decide_eq_true (by omega)
        rw [hve] at LAST hfd1 hfd3
        obtain ⟨yn, yi, yt, yve, yvp, yes, yps⟩ := y
        simp only at *
        clear HCT1 hyi hve hle hn i0 i1 i2 i3 i4 i5 i6 i7 i8 i9 i10
        go_wp2_with fail
        refine (LAST.out _ G1.out.lg.lg).mono ?_
        rintro e w1 ⟨rfl, b1⟩
        have G2 := hid (G1.out.keep1 (b1.keep _))
        have S2 := hid (S1.out.keep1 (b1.keep _))
        clear b1 G1 S1
        go_wp2_with fail
        refine (LAST.out _ G2.out.lg.lg).mono ?_
        rintro e w2 ⟨rfl, b1⟩
        have G3 := hid (G2.out.keep1 (b1.keep _))
        have S3 := hid (S2.out.keep1 (b1.keep _))
        clear b1 G2 S2 LAST
        have FIN : Hid (LgE w c p dk B L tm vt lost (l0.map Sv.sg ++ [Sv.sg ⟨yn, yi, yt, yve, yvp, yes, yps⟩]) w2) := ⟨c1, _, _, G3.out, by rw [List.map_append]; rfl, S3.out⟩
        clear G3 S3 GX SX
        go_wp2
        (try simp only [Exit.inBlock, Exit.then])
        go_ret
        rw [HR.out]
        exact ⟨rfl, FIN.out⟩
      · have hlt : n < y.es.length := by omega
        obtain ⟨b1, ec, hve, hec⟩ := hyi.oe.form1 (by omega)
        have HR : Hid (P = ((cuD dk (fnB y.n) (fsG y.sg n).sz).1, if (cuD dk (fnB y.n) (fsG y.sg n).sz).2 = 0 then l0.map Sv.sg ++ [fsG y.sg n] else l0.map Sv.sg ++ [y.sg], (cuD dk (fnB y.n) (fsG y.sg n).sz).2)) := by
          have h9 := HCT1.out.trans (if_neg (by rw [hn]; exact hle))
          rw [hn] at h9
          exact h9
        have g1 : decide ((y.es.length : Int) ≤ (n : Int)) = false := decide_eq_false hle
        have g2 : decide (y.es.length ≤ n) = false := decide_eq_false (by omega)
        have hnp : n + 1 ≤ y.ps.length := by omega
        have FR := hid (fun W => sgfirst_any y.n y.ix y.tm b1 y.es.length ec pg y.ps.length pcap n W (by omega) (by have := HPC.out; omega) (by omega))
        have XI : Hid (∀ W, SvI W B y → SvI W B ⟨y.n, y.ix, y.tm, .slice (some ⟨b1, 0, none⟩) n n, .slice (some ⟨pg, 0, none⟩) (n + 1) (n + 1), y.es.take n, y.ps.take (n + 1)⟩) := fun W h => by
          have h1 := h.oe
          have h2 := h.oi
          rw [hve] at h1
          rw [HVP.out] at h2
          have q1 := h1.cut n (by omega) (by omega)
          have q2 := h2.cut (n + 1) hnp (by omega)
          refine ⟨?_, ?_⟩
          · show ORow W B 68 3 _ (y.es.take n).length (ensC (y.es.take n))
            rw [List.length_take, Nat.min_eq_left (by omega), ← ensC_take]
            exact q1
          · show ORow W B 3 1 _ (y.ps.take (n + 1)).length (isC (y.ps.take (n + 1)))
            rw [List.length_take, Nat.min_eq_left hnp, ← isC_take]
            exact q2
        have FI : Hid (∀ W, GV W → Calls Tryz.prog 123 #[.agg #[.int .i64 y.n, .int .i64 y.ix, .int .i64 y.tm, .slice (some ⟨b1, 0, none⟩) n n, .slice (some ⟨pg, 0, none⟩) (n + 1) (n + 1)]] W fun e w' => e = .returned (.string ⟨(fnB y.n).toArray⟩) ∧ Below W.heap.size W w') := fun W hG => sgfile_any y.n y.ix y.tm _ _ W (by omega) (by omega) hG
        have SZ0 : Hid (∀ W, SvI W B ⟨y.n, y.ix, y.tm, .slice (some ⟨b1, 0, none⟩) n n, .slice (some ⟨pg, 0, none⟩) (n + 1) (n + 1), y.es.take n, y.ps.take (n + 1)⟩ → Calls Tryz.prog 105 #[.agg #[.int .i64 y.n, .int .i64 y.ix, .int .i64 y.tm, .slice (some ⟨b1, 0, none⟩) n n, .slice (some ⟨pg, 0, none⟩) (n + 1) (n + 1)]] W fun e w' => e = .returned (.int .i64 (fsG y.sg n).sz) ∧ Below W.heap.size W w') := fun W h => sgsize_any y.n y.ix y.tm _ _ (y.ps.take (n + 1)) W h.oi.ints (by rw [List.length_take]; omega) (by rw [List.length_take]; omega)
        have hfl := fnB_len y.n (by omega) (by omega)
        have CU : Hid (∀ W c, DiskIs W c p dk → Calls Tryz.prog 148 #[.pointer (some ⟨p, 0, none⟩), .string ⟨(fnB y.n).toArray⟩, .int .i64 (fsG y.sg n).sz] W fun e w' => e = .returned (.int .i64 (cuD dk (fnB y.n) (fsG y.sg n).sz).2) ∧ Left W c p (cuD dk (fnB y.n) (fsG y.sg n).sz).1 w') := fun W c D => cut_any p c dk (fnB y.n) _ W D (by have := HDM.out; omega) HDN.out
        have HVE := hid hve
        rw [hve, HVP.out] at LAST hfd1
        rw [hve] at hfd3
        rw [HVP.out] at hfd3
        generalize cuD dk (fnB y.n) (fsG y.sg n).sz = A at *
        generalize (fsG y.sg n).sz = z at *
        obtain ⟨d2, er⟩ := A
        have CB : Hid (∀ j, y.ve.ownBlock = some j ∨ y.vp.ownBlock = some j → c1 j = 8) := fun j hj => G1.out.cs y hym j hj
        have HFS : Hid (fsG y.sg n = Sv.sg ⟨y.n, y.ix, y.tm, .slice (some ⟨b1, 0, none⟩) n n, .slice (some ⟨pg, 0, none⟩) (n + 1) (n + 1), y.es.take n, y.ps.take (n + 1)⟩) := rfl
        have XAP : Hid (∀ a ∈ l0, (∀ j, a.ve.ownBlock = some j → ¬ (Value.slice (some ⟨b1, 0, none⟩) n n).ownBlock = some j) ∧ ∀ j, a.vp.ownBlock = some j → ¬ (Value.slice (some ⟨pg, 0, none⟩) (n + 1) (n + 1)).ownBlock = some j) := fun a ha => by
          have e1 := (List.pairwise_append.1 G1.out.lg.lg.sg.ae).2.2 a ha y (by simp)
          have e2 := (List.pairwise_append.1 G1.out.lg.lg.sg.ai).2.2 a ha y (by simp)
          rw [hve] at e1
          rw [HVP.out] at e2
          exact ⟨e1, e2⟩
        have HGW : Hid (g < wc.heap.size) := G1.out.lg.lg.bltv rfl
        obtain ⟨yn, yi, yt, yve, yvp, yes, yps⟩ := y
        simp only at *
        clear HCT1 hyi hle hn i0 i1 i2 i3 i4 i5 i6 i7 i8 i9 i10 hfl hnp hec
        go_wp2_with fail
        refine (LAST.out _ G1.out.lg.lg).mono ?_
        rintro e w1 ⟨rfl, b3⟩
        have G2 := hid (G1.out.keep1 (b3.keep _))
        have S2 := hid (S1.out.keep1 (b3.keep _))
        have HB2 := hid b3
        clear b3 G1 S1
        go_wp2_with fail
        refine (LAST.out _ G2.out.lg.lg).mono ?_
        rintro e w2 ⟨rfl, b3⟩
        have G3 := hid (G2.out.keep1 (b3.keep _))
        have S3 := hid (S2.out.keep1 (b3.keep _))
        have HB3 := hid (below_on HB2.out b3)
        clear b3 G2 S2 HB2
        go_wp2_with fail
        refine (LAST.out _ G3.out.lg.lg).mono ?_
        rintro e w3 ⟨rfl, b3⟩
        have G4 := hid (G3.out.keep1 (b3.keep _))
        have S4 := hid (S3.out.keep1 (b3.keep _))
        have HB4 := hid (below_on HB3.out b3)
        clear b3 G3 S3 HB3 LAST hfd1 hfd3
        unfold sgV at FR
        go_wp2_with fail
        refine (FR.out _).mono ?_
        rintro e w4 ⟨rfl, b3⟩
        have S5p : Hid (FlS w c p dk B L tm vt lost (.slice (some ⟨g, 0, none⟩) N cap) (l0 ++ [⟨yn, yi, yt, yve, yvp, yes, yps⟩]) w4.heap.size ⟨yn, yi, yt, .slice (some ⟨b1, 0, none⟩) n n, .slice (some ⟨pg, 0, none⟩) (n + 1) (n + 1), yes.take n, yps.take (n + 1)⟩ c1 (w4.alloc (.cells #[.int .i64 yn, .int .i64 yi, .int .i64 yt, .slice (some ⟨b1, 0, none⟩) n n, .slice (some ⟨pg, 0, none⟩) (n + 1) (n + 1)] 126))) := by
          have k : Keep (fun _ => False) w3 (w4.alloc (.cells #[.int .i64 yn, .int .i64 yi, .int .i64 yt, .slice (some ⟨b1, 0, none⟩) n n, .slice (some ⟨pg, 0, none⟩) (n + 1) (n + 1)] 126)) := (b3.keep _).trans (keep_alloc _ _ _)
          have g5 := G4.out.keep1 k
          refine ⟨g5, S4.out.keep1 k, srow w4 _ _, XI.out _ (g5.lg.lg.sg.sg _ hym), N1.out _ (Nat.le_trans HB4.out.size b3.size), fun j hj => CB.out j ?_⟩
          rw [HVE.out, HVP.out]
          exact hj
        have HBX : Hid (g ≠ w4.heap.size) := by have := HGW.out; have := HB4.out.size; have := b3.size; show _ ≠ _; omega
        have RB : Hid (∀ c2 d W, FlS w c p d B L tm vt lost (.slice (some ⟨g, 0, none⟩) N cap) (l0 ++ [⟨yn, yi, yt, yve, yvp, yes, yps⟩]) w4.heap.size ⟨yn, yi, yt, .slice (some ⟨b1, 0, none⟩) n n, .slice (some ⟨pg, 0, none⟩) (n + 1) (n + 1), yes.take n, yps.take (n + 1)⟩ c2 W → RowIs W w4.heap.size [.int .i64 yn, .int .i64 yi, .int .i64 yt, .slice (some ⟨b1, 0, none⟩) n n, .slice (some ⟨pg, 0, none⟩) (n + 1) (n + 1)] 126) := fun c2 d W h => h.b
        have SZ : Hid (∀ c2 d W, FlS w c p d B L tm vt lost (.slice (some ⟨g, 0, none⟩) N cap) (l0 ++ [⟨yn, yi, yt, yve, yvp, yes, yps⟩]) w4.heap.size ⟨yn, yi, yt, .slice (some ⟨b1, 0, none⟩) n n, .slice (some ⟨pg, 0, none⟩) (n + 1) (n + 1), yes.take n, yps.take (n + 1)⟩ c2 W → Calls Tryz.prog 105 #[.agg #[.int .i64 yn, .int .i64 yi, .int .i64 yt, .slice (some ⟨b1, 0, none⟩) n n, .slice (some ⟨pg, 0, none⟩) (n + 1) (n + 1)]] W fun e w' => e = .returned (.int .i64 z) ∧ Below W.heap.size W w') := fun c2 d W h => SZ0.out W h.xi
        clear b3 G4 S4 HB4 FR XI SZ0 N1 CB GX SX
        (try unfold sgV)
        go_wp2_with fail
        generalize w4.alloc (.cells #[.int .i64 yn, .int .i64 yi, .int .i64 yt, .slice (some ⟨b1, 0, none⟩) n n, .slice (some ⟨pg, 0, none⟩) (n + 1) (n + 1)] 126) = W3 at *
        generalize w4.heap.size = bx at *
        have S3 := hid (S5p.out.next (Below.refl _ _).drew)
        clear S5p
        have R3 := hid (RB.out _ _ _ S3.out)
        have Z0 : (W3.drew.cell? ⟨L, 0, none⟩ = some (.pointer (some ⟨p, 0, none⟩)) ∧ W3.drew.cell? ⟨bx, 0, none⟩ = some (.int .i64 yn) ∧ W3.drew.cell? ⟨bx, 1, none⟩ = some (.int .i64 yi) ∧ W3.drew.cell? ⟨bx, 2, none⟩ = some (.int .i64 yt) ∧ W3.drew.cell? ⟨bx, 3, none⟩ = some (.slice (some ⟨b1, 0, none⟩) n n) ∧ W3.drew.cell? ⟨bx, 4, none⟩ = some (.slice (some ⟨pg, 0, none⟩) (n + 1) (n + 1))) := ⟨S3.out.g.lg.lg.bx.cellAt (o := 0) rfl, R3.out.cellAt (o := 0) rfl, R3.out.cellAt (o := 1) rfl, R3.out.cellAt (o := 2) rfl, R3.out.cellAt (o := 3) rfl, R3.out.cellAt (o := 4) rfl⟩
        refine wp_region_held_drew (S := fun W => W.cell? ⟨L, 0, none⟩ = some (.pointer (some ⟨p, 0, none⟩)) ∧ W.cell? ⟨bx, 0, none⟩ = some (.int .i64 yn) ∧ W.cell? ⟨bx, 1, none⟩ = some (.int .i64 yi) ∧ W.cell? ⟨bx, 2, none⟩ = some (.int .i64 yt) ∧ W.cell? ⟨bx, 3, none⟩ = some (.slice (some ⟨b1, 0, none⟩) n n) ∧ W.cell? ⟨bx, 4, none⟩ = some (.slice (some ⟨pg, 0, none⟩) (n + 1) (n + 1))) (by kernel_rfl) Z0 (fun hHeld => ?_)
        generalize W3.drew = u0 at *
        refine wpAnyH_take (i := 0) (v := ?vv7) rfl (by kernel_rfl) (by kernel_rfl) (by kernel_rfl) (fun _ _ _ h => h) (Or.inl ⟨by rfl, ?hy7⟩) (by assumption) ?rest7
        case hy7 => (intro w hSw; (try dsimp only at hSw); go_simp; first | done | with_reducible rfl)
        try simp only [Act.put, List.getElem_toArray, List.getElem_cons_succ, List.getElem_cons_zero, List.setIfInBounds_toArray, List.set_cons_zero, List.set_cons_succ]
        refine wpAnyH_take (i := 1) (v := ?vv8) rfl (by kernel_rfl) (by kernel_rfl) (by kernel_rfl) (fun _ _ _ h => h) (Or.inl ⟨by rfl, ?hy8⟩) (by assumption) ?rest8
        case hy8 => (intro w hSw; (try dsimp only at hSw); go_simp; first | done | with_reducible rfl)
        try simp only [Act.put, List.getElem_toArray, List.getElem_cons_succ, List.getElem_cons_zero, List.setIfInBounds_toArray, List.set_cons_zero, List.set_cons_succ]
        refine wpAnyH_take (i := 2) (v := ?vv9) rfl (by kernel_rfl) (by kernel_rfl) (by kernel_rfl) (fun _ _ _ h => h) (Or.inl ⟨by rfl, ?hy9⟩) (by assumption) ?rest9
        case hy9 => (intro w hSw; (try dsimp only at hSw); go_simp; first | done | with_reducible rfl)
        try simp only [Act.put, List.getElem_toArray, List.getElem_cons_succ, List.getElem_cons_zero, List.setIfInBounds_toArray, List.set_cons_zero, List.set_cons_succ]
        refine wpAnyH_take (i := 3) (v := ?vv10) rfl (by kernel_rfl) (by kernel_rfl) (by kernel_rfl) (fun _ _ _ h => h) (Or.inl ⟨by rfl, ?hy10⟩) (by assumption) ?rest10
        case hy10 => (intro w hSw; (try dsimp only at hSw); go_simp; first | done | with_reducible rfl)
        try simp only [Act.put, List.getElem_toArray, List.getElem_cons_succ, List.getElem_cons_zero, List.setIfInBounds_toArray, List.set_cons_zero, List.set_cons_succ]
        refine wpAnyH_take (i := 4) (v := ?vv11) rfl (by kernel_rfl) (by kernel_rfl) (by kernel_rfl) (fun _ _ _ h => h) (Or.inl ⟨by rfl, ?hy11⟩) (by assumption) ?rest11
        case hy11 => (intro w hSw; (try dsimp only at hSw); go_simp; first | done | with_reducible rfl)
        try simp only [Act.put, List.getElem_toArray, List.getElem_cons_succ, List.getElem_cons_zero, List.setIfInBounds_toArray, List.set_cons_zero, List.set_cons_succ]
        refine wpAnyH_take (i := 6) (v := ?vv12) rfl (by kernel_rfl) (by kernel_rfl) (by kernel_rfl) (fun _ _ _ h => h) (Or.inl ⟨by rfl, ?hy12⟩) (by assumption) ?rest12
        case hy12 => (intro w hSw; (try dsimp only at hSw); go_simp; first | done | with_reducible rfl)
        try simp only [Act.put, List.getElem_toArray, List.getElem_cons_succ, List.getElem_cons_zero, List.setIfInBounds_toArray, List.set_cons_zero, List.set_cons_succ]
        refine wpAnyH_ready (rs := [5]) (by kernel_rfl) (by simp) ?_
        refine AllReadyH.cons rfl (fun K hK => ?_) AllReadyH.nil
        go_simp
        refine (FI.out _ S3.out.g.gv).mono ?_
        rintro e u1 ⟨rfl, bb⟩
        have S4 := hid (S3.out.next bb)
        have R4 := hid (RB.out _ _ _ S4.out)
        have Z1 : (u1.cell? ⟨L, 0, none⟩ = some (.pointer (some ⟨p, 0, none⟩)) ∧ u1.cell? ⟨bx, 0, none⟩ = some (.int .i64 yn) ∧ u1.cell? ⟨bx, 1, none⟩ = some (.int .i64 yi) ∧ u1.cell? ⟨bx, 2, none⟩ = some (.int .i64 yt) ∧ u1.cell? ⟨bx, 3, none⟩ = some (.slice (some ⟨b1, 0, none⟩) n n) ∧ u1.cell? ⟨bx, 4, none⟩ = some (.slice (some ⟨pg, 0, none⟩) (n + 1) (n + 1))) := ⟨S4.out.g.lg.lg.bx.cellAt (o := 0) rfl, R4.out.cellAt (o := 0) rfl, R4.out.cellAt (o := 1) rfl, R4.out.cellAt (o := 2) rfl, R4.out.cellAt (o := 3) rfl, R4.out.cellAt (o := 4) rfl⟩
        clear bb S3 R3 hHeld
        go_wp2_with fail
        refine hK.out _ _ Z1 (fun hHeld => ?_)
        clear hK K
        try simp only [Act.put, List.getElem_toArray, List.getElem_cons_succ, List.getElem_cons_zero, List.setIfInBounds_toArray, List.set_cons_zero, List.set_cons_succ]
        refine wpAnyH_ready (rs := [7]) (by kernel_rfl) (by simp) ?_
        refine AllReadyH.cons rfl (fun K hK => ?_) AllReadyH.nil
        go_simp
        refine (SZ.out _ _ _ S4.out).mono ?_
        rintro e u2 ⟨rfl, bb⟩
        clear Z1
        have S5 := hid (S4.out.next bb)
        have R5 := hid (RB.out _ _ _ S5.out)
        have Z1 : (u2.cell? ⟨L, 0, none⟩ = some (.pointer (some ⟨p, 0, none⟩)) ∧ u2.cell? ⟨bx, 0, none⟩ = some (.int .i64 yn) ∧ u2.cell? ⟨bx, 1, none⟩ = some (.int .i64 yi) ∧ u2.cell? ⟨bx, 2, none⟩ = some (.int .i64 yt) ∧ u2.cell? ⟨bx, 3, none⟩ = some (.slice (some ⟨b1, 0, none⟩) n n) ∧ u2.cell? ⟨bx, 4, none⟩ = some (.slice (some ⟨pg, 0, none⟩) (n + 1) (n + 1))) := ⟨S5.out.g.lg.lg.bx.cellAt (o := 0) rfl, R5.out.cellAt (o := 0) rfl, R5.out.cellAt (o := 1) rfl, R5.out.cellAt (o := 2) rfl, R5.out.cellAt (o := 3) rfl, R5.out.cellAt (o := 4) rfl⟩
        clear bb S4 R4 hHeld
        go_wp2_with fail
        refine hK.out _ _ Z1 (fun hHeld => ?_)
        clear hK K
        try simp only [Act.put, List.getElem_toArray, List.getElem_cons_succ, List.getElem_cons_zero, List.setIfInBounds_toArray, List.set_cons_zero, List.set_cons_succ]
        refine wpAnyH_ready (rs := [8]) (by kernel_rfl) (by simp) ?_
        refine AllReadyH.cons rfl (fun K hK => ?_) AllReadyH.nil
        go_simp
        refine (CU.out _ _ S5.out.g.lg.dk).mono ?_
        rintro e u4 ⟨rfl, hL⟩
        obtain ⟨c2, s5⟩ := S5.out.left hL
        have S6 := hid s5
        have R6 := hid (RB.out _ _ _ S6.out)
        have Z2 : (u4.cell? ⟨L, 0, none⟩ = some (.pointer (some ⟨p, 0, none⟩)) ∧ u4.cell? ⟨bx, 0, none⟩ = some (.int .i64 yn) ∧ u4.cell? ⟨bx, 1, none⟩ = some (.int .i64 yi) ∧ u4.cell? ⟨bx, 2, none⟩ = some (.int .i64 yt) ∧ u4.cell? ⟨bx, 3, none⟩ = some (.slice (some ⟨b1, 0, none⟩) n n) ∧ u4.cell? ⟨bx, 4, none⟩ = some (.slice (some ⟨pg, 0, none⟩) (n + 1) (n + 1))) := ⟨S6.out.g.lg.lg.bx.cellAt (o := 0) rfl, R6.out.cellAt (o := 0) rfl, R6.out.cellAt (o := 1) rfl, R6.out.cellAt (o := 2) rfl, R6.out.cellAt (o := 3) rfl, R6.out.cellAt (o := 4) rfl⟩
        clear s5 hL CU S5 R5 Z1 hHeld
        go_wp2_with fail
        refine hK.out _ _ Z2 (fun hHeld => ?_)
        clear hK K
        try simp only [Act.put, List.getElem_toArray, List.getElem_cons_succ, List.getElem_cons_zero, List.setIfInBounds_toArray, List.set_cons_zero, List.set_cons_succ]
        refine wpAnyH_take (i := 9) (v := ?vv13) rfl (by kernel_rfl) (by kernel_rfl) (by kernel_rfl) (fun _ _ _ h => h) (Or.inl ⟨by rfl, ?hy13⟩) (by assumption) ?rest13
        case hy13 => (intro w hSw; (try dsimp only at hSw); go_simp; first | done | with_reducible rfl)
        try simp only [Act.put, List.getElem_toArray, List.getElem_cons_succ, List.getElem_cons_zero, List.setIfInBounds_toArray, List.set_cons_zero, List.set_cons_succ]
        refine wpAnyH_done (by kernel_rfl) ?_ _
        clear Z2 hHeld FI SZ
        by_cases her : er = 0
        · subst her
          go_wp2_with fail
          have S7 := hid (S6.out.next (Below.refl _ _).drew)
          have R7 := hid (RB.out _ _ _ S7.out)
          have Z5 : (u4.drew.cell? ⟨L, 3, none⟩ = some (.slice (some ⟨g, 0, none⟩) N cap) ∧ u4.drew.cell? ⟨bx, 0, none⟩ = some (.int .i64 yn) ∧ u4.drew.cell? ⟨bx, 1, none⟩ = some (.int .i64 yi) ∧ u4.drew.cell? ⟨bx, 2, none⟩ = some (.int .i64 yt) ∧ u4.drew.cell? ⟨bx, 3, none⟩ = some (.slice (some ⟨b1, 0, none⟩) n n) ∧ u4.drew.cell? ⟨bx, 4, none⟩ = some (.slice (some ⟨pg, 0, none⟩) (n + 1) (n + 1))) := ⟨S7.out.g.lg.lg.bx.cellAt (o := 3) rfl, R7.out.cellAt (o := 0) rfl, R7.out.cellAt (o := 1) rfl, R7.out.cellAt (o := 2) rfl, R7.out.cellAt (o := 3) rfl, R7.out.cellAt (o := 4) rfl⟩
          have LST := S7.out.g.lg.lg.sg.last (x := ⟨yn, yi, yt, .slice (some ⟨b1, 0, none⟩) n n, .slice (some ⟨pg, 0, none⟩) (n + 1) (n + 1), yes.take n, yps.take (n + 1)⟩) HM.out HNM.out S7.out.xi (fun a ha => (XAP.out a ha).1) (fun a ha => (XAP.out a ha).2) rfl
          simp only at LST
          have hLg : ¬ L = g := fun e => S7.out.g.lg.lg.sg.row.ne_row S7.out.g.lg.lg.bx (by decide) (by rw [e]; rfl)
          have GF := hid (S7.out.g.own (LST.2.mono (fun j _ e => by rw [e]; exact S7.out.g.cv g rfl)) ⟨S7.out.g.lg.lg.bx.keep LST.2 hLg, LST.1⟩ S7.out.g.cv (fun z hz j hj => by
            rcases List.mem_append.1 hz with hz | hz
            · exact S7.out.g.cs z (List.mem_append_left _ hz) j hj
            · rw [List.mem_singleton.1 hz] at hj; exact S7.out.cx j hj))
          have SF := hid (S7.out.s.trans GF.out.2)
          have RF := hid (R7.out.keep LST.2 (fun e => HBX.out e.symm))
          have Z6 : ((((((u4.drew.setCell ⟨g, m * 5, none⟩ (.int .i64 yn)).setCell ⟨g, m * 5 + 1, none⟩ (.int .i64 yi)).setCell ⟨g, m * 5 + 2, none⟩ (.int .i64 yt)).setCell ⟨g, m * 5 + 3, none⟩ (.slice (some ⟨b1, 0, none⟩) n n)).setCell ⟨g, m * 5 + 4, none⟩ (.slice (some ⟨pg, 0, none⟩) (n + 1) (n + 1))).cell? ⟨L, 3, none⟩ = some (.slice (some ⟨g, 0, none⟩) N cap) ∧ (((((u4.drew.setCell ⟨g, m * 5, none⟩ (.int .i64 yn)).setCell ⟨g, m * 5 + 1, none⟩ (.int .i64 yi)).setCell ⟨g, m * 5 + 2, none⟩ (.int .i64 yt)).setCell ⟨g, m * 5 + 3, none⟩ (.slice (some ⟨b1, 0, none⟩) n n)).setCell ⟨g, m * 5 + 4, none⟩ (.slice (some ⟨pg, 0, none⟩) (n + 1) (n + 1))).cell? ⟨bx, 0, none⟩ = some (.int .i64 yn) ∧ (((((u4.drew.setCell ⟨g, m * 5, none⟩ (.int .i64 yn)).setCell ⟨g, m * 5 + 1, none⟩ (.int .i64 yi)).setCell ⟨g, m * 5 + 2, none⟩ (.int .i64 yt)).setCell ⟨g, m * 5 + 3, none⟩ (.slice (some ⟨b1, 0, none⟩) n n)).setCell ⟨g, m * 5 + 4, none⟩ (.slice (some ⟨pg, 0, none⟩) (n + 1) (n + 1))).cell? ⟨bx, 1, none⟩ = some (.int .i64 yi) ∧ (((((u4.drew.setCell ⟨g, m * 5, none⟩ (.int .i64 yn)).setCell ⟨g, m * 5 + 1, none⟩ (.int .i64 yi)).setCell ⟨g, m * 5 + 2, none⟩ (.int .i64 yt)).setCell ⟨g, m * 5 + 3, none⟩ (.slice (some ⟨b1, 0, none⟩) n n)).setCell ⟨g, m * 5 + 4, none⟩ (.slice (some ⟨pg, 0, none⟩) (n + 1) (n + 1))).cell? ⟨bx, 2, none⟩ = some (.int .i64 yt) ∧ (((((u4.drew.setCell ⟨g, m * 5, none⟩ (.int .i64 yn)).setCell ⟨g, m * 5 + 1, none⟩ (.int .i64 yi)).setCell ⟨g, m * 5 + 2, none⟩ (.int .i64 yt)).setCell ⟨g, m * 5 + 3, none⟩ (.slice (some ⟨b1, 0, none⟩) n n)).setCell ⟨g, m * 5 + 4, none⟩ (.slice (some ⟨pg, 0, none⟩) (n + 1) (n + 1))).cell? ⟨bx, 3, none⟩ = some (.slice (some ⟨b1, 0, none⟩) n n) ∧ (((((u4.drew.setCell ⟨g, m * 5, none⟩ (.int .i64 yn)).setCell ⟨g, m * 5 + 1, none⟩ (.int .i64 yi)).setCell ⟨g, m * 5 + 2, none⟩ (.int .i64 yt)).setCell ⟨g, m * 5 + 3, none⟩ (.slice (some ⟨b1, 0, none⟩) n n)).setCell ⟨g, m * 5 + 4, none⟩ (.slice (some ⟨pg, 0, none⟩) (n + 1) (n + 1))).cell? ⟨bx, 4, none⟩ = some (.slice (some ⟨pg, 0, none⟩) (n + 1) (n + 1))) := ⟨GF.out.1.lg.lg.bx.cellAt (o := 3) rfl, RF.out.cellAt (o := 0) rfl, RF.out.cellAt (o := 1) rfl, RF.out.cellAt (o := 2) rfl, RF.out.cellAt (o := 3) rfl, RF.out.cellAt (o := 4) rfl⟩
          have HGF := hid GF.out.1
          have HFR : Hid (∀ o, u4.drew.frozen? ⟨g, o, none⟩ = false) := fun o => by obtain ⟨cs0, rw0⟩ := S7.out.g.lg.lg.sg.row.block (g := g) rfl; exact rw0.frozen
          have CEL : Hid (∀ o, o < 5 → ∃ u, u4.drew.cell? ⟨g, m * 5 + o, none⟩ = some u) := fun o ho => by
            have h1 := S7.out.g.lg.lg.sg.cellN m (by simp [HM.out]) o
            rcases ho9 : (svC ((l0 ++ [⟨yn, yi, yt, yve, yvp, yes, yps⟩])[m]'(by simp [HM.out])))[o]? with _ | u
            · rw [List.getElem?_eq_none_iff] at ho9; simp [svC, sgC] at ho9; omega
            · have := h1 u ho9; rw [Nat.zero_add] at this; exact ⟨u, this⟩
          obtain ⟨k0, hk0⟩ := CEL.out 0 (by omega)
          obtain ⟨k1, hk1⟩ := CEL.out 1 (by omega)
          obtain ⟨k2, hk2⟩ := CEL.out 2 (by omega)
          obtain ⟨k3, hk3⟩ := CEL.out 3 (by omega)
          obtain ⟨k4, hk4⟩ := CEL.out 4 (by omega)
          rw [Nat.add_zero] at hk0
          have g0 := HFR.out (m * 5)
          have g11 := HFR.out (m * 5 + 1)
          have g22 := HFR.out (m * 5 + 2)
          have g3 := HFR.out (m * 5 + 3)
          have g4 := HFR.out (m * 5 + 4)
          clear GF RF R7 S7 S6 R6 RB LST hLg HFR CEL
          refine wp_region_held_drew (S := fun W => W.cell? ⟨L, 3, none⟩ = some (.slice (some ⟨g, 0, none⟩) N cap) ∧ W.cell? ⟨bx, 0, none⟩ = some (.int .i64 yn) ∧ W.cell? ⟨bx, 1, none⟩ = some (.int .i64 yi) ∧ W.cell? ⟨bx, 2, none⟩ = some (.int .i64 yt) ∧ W.cell? ⟨bx, 3, none⟩ = some (.slice (some ⟨b1, 0, none⟩) n n) ∧ W.cell? ⟨bx, 4, none⟩ = some (.slice (some ⟨pg, 0, none⟩) (n + 1) (n + 1))) (by kernel_rfl) Z5 (fun hHeld => ?_)
          generalize u4.drew = u3 at *
          refine wpAnyH_take (i := 0) (v := ?vv14) rfl (by kernel_rfl) (by kernel_rfl) (by kernel_rfl) (fun _ _ _ h => h) (Or.inl ⟨by rfl, ?hy14⟩) (by assumption) ?rest14
          case hy14 => (intro w hSw; (try dsimp only at hSw); go_simp; first | done | with_reducible rfl)
          try simp only [Act.put, List.getElem_toArray, List.getElem_cons_succ, List.getElem_cons_zero, List.setIfInBounds_toArray, List.set_cons_zero, List.set_cons_succ]
          refine wpAnyH_take (i := 1) (v := ?vv15) rfl (by kernel_rfl) (by kernel_rfl) (by kernel_rfl) (fun _ _ _ h => h) (Or.inl ⟨by rfl, ?hy15⟩) (by assumption) ?rest15
          case hy15 => (intro w hSw; (try dsimp only at hSw); go_simp; first | done | with_reducible rfl)
          try simp only [Act.put, List.getElem_toArray, List.getElem_cons_succ, List.getElem_cons_zero, List.setIfInBounds_toArray, List.set_cons_zero, List.set_cons_succ]
          refine wpAnyH_take (i := 2) (v := ?vv16) rfl (by kernel_rfl) (by kernel_rfl) (by kernel_rfl) (fun _ _ _ h => h) (Or.inl ⟨by rfl, ?hy16⟩) (by assumption) ?rest16
          case hy16 => (intro w hSw; (try dsimp only at hSw); go_simp; first | done | with_reducible rfl)
          try simp only [Act.put, List.getElem_toArray, List.getElem_cons_succ, List.getElem_cons_zero, List.setIfInBounds_toArray, List.set_cons_zero, List.set_cons_succ]
          refine wpAnyH_take (i := 3) (v := ?vv17) rfl (by kernel_rfl) (by kernel_rfl) (by kernel_rfl) (fun _ _ _ h => h) (Or.inl ⟨by rfl, ?hy17⟩) (by assumption) ?rest17
          case hy17 => (intro w hSw; (try dsimp only at hSw); go_simp; first | done | with_reducible rfl)
          try simp only [Act.put, List.getElem_toArray, List.getElem_cons_succ, List.getElem_cons_zero, List.setIfInBounds_toArray, List.set_cons_zero, List.set_cons_succ]
          refine wpAnyH_take (i := 4) (v := ?vv18) rfl (by kernel_rfl) (by kernel_rfl) (by kernel_rfl) (fun _ _ _ h => h) (Or.inl ⟨by rfl, ?hy18⟩) (by assumption) ?rest18
          case hy18 => (intro w hSw; (try dsimp only at hSw); go_simp; first | done | with_reducible rfl)
          try simp only [Act.put, List.getElem_toArray, List.getElem_cons_succ, List.getElem_cons_zero, List.setIfInBounds_toArray, List.set_cons_zero, List.set_cons_succ]
          refine wpAnyH_take (i := 5) (v := ?vv19) rfl (by kernel_rfl) (by kernel_rfl) (by kernel_rfl) (fun _ _ _ h => h) (Or.inl ⟨by rfl, ?hy19⟩) (by assumption) ?rest19
          case hy19 => (intro w hSw; (try dsimp only at hSw); go_simp; first | done | with_reducible rfl)
          try simp only [Act.put, List.getElem_toArray, List.getElem_cons_succ, List.getElem_cons_zero, List.setIfInBounds_toArray, List.set_cons_zero, List.set_cons_succ]
          refine wpAnyH_take (i := 6) (v := ?vv20) rfl (by kernel_rfl) (by kernel_rfl) (by kernel_rfl) (fun _ _ _ h => h) (Or.inl ⟨by rfl, ?hy20⟩) (by assumption) ?rest20
          case hy20 => (intro w hSw; (try dsimp only at hSw); go_simp; first | done | with_reducible rfl)
          try simp only [Act.put, List.getElem_toArray, List.getElem_cons_succ, List.getElem_cons_zero, List.setIfInBounds_toArray, List.set_cons_zero, List.set_cons_succ]
          refine wpAnyH_take (i := 7) (v := ?vv21) rfl (by kernel_rfl) (by kernel_rfl) (by kernel_rfl) (fun _ _ _ h => h) (Or.inl ⟨by rfl, ?hy21⟩) (by assumption) ?rest21
          case hy21 => (intro w hSw; (try dsimp only at hSw); go_simp; first | done | with_reducible rfl)
          try simp only [Act.put, List.getElem_toArray, List.getElem_cons_succ, List.getElem_cons_zero, List.setIfInBounds_toArray, List.set_cons_zero, List.set_cons_succ]
          refine wpAnyH_take (i := 8) (v := ?vv22) rfl (by kernel_rfl) (by kernel_rfl) (by kernel_rfl) (fun _ _ _ h => h) (Or.inl ⟨by rfl, ?hy22⟩) (by assumption) ?rest22
          case hy22 => (intro w hSw; (try dsimp only at hSw); go_simp; first | done | with_reducible rfl)
          try simp only [Act.put, List.getElem_toArray, List.getElem_cons_succ, List.getElem_cons_zero, List.setIfInBounds_toArray, List.set_cons_zero, List.set_cons_succ]
          refine wpAnyH_take (i := 9) (v := ?vv23) rfl (by kernel_rfl) (by kernel_rfl) (by kernel_rfl) (fun _ _ _ h => h) (Or.inl ⟨by rfl, ?hy23⟩) (by assumption) ?rest23
          case hy23 => (intro w hSw; (try dsimp only at hSw); go_simp; first | done | with_reducible rfl)
          try simp only [Act.put, List.getElem_toArray, List.getElem_cons_succ, List.getElem_cons_zero, List.setIfInBounds_toArray, List.set_cons_zero, List.set_cons_succ]
          refine wpAnyH_take (i := 10) (v := ?vv24) rfl (by kernel_rfl) (by kernel_rfl) (by kernel_rfl) (fun _ _ _ h => h) (Or.inl ⟨by rfl, ?hy24⟩) (by assumption) ?rest24
          case hy24 => (intro w hSw; (try dsimp only at hSw); go_simp; first | done | with_reducible rfl)
          try simp only [Act.put, List.getElem_toArray, List.getElem_cons_succ, List.getElem_cons_zero, List.setIfInBounds_toArray, List.set_cons_zero, List.set_cons_succ]
          refine wpAnyH_take (i := 11) (v := ?vv25) rfl (by kernel_rfl) (by kernel_rfl) (by kernel_rfl) (fun _ _ _ h => h) (Or.inl ⟨by rfl, ?hy25⟩) (by assumption) ?rest25
          case hy25 => (intro w hSw; (try dsimp only at hSw); go_simp; first | done | with_reducible rfl)
          try simp only [Act.put, List.getElem_toArray, List.getElem_cons_succ, List.getElem_cons_zero, List.setIfInBounds_toArray, List.set_cons_zero, List.set_cons_succ]
          refine wpAnyH_ready (rs := [12]) (by kernel_rfl) (by simp) ?_
          refine AllReadyH.cons rfl (fun K hK => ?_) AllReadyH.nil
          go_simp
          refine hK.out _ _ Z6 (fun hHeld => ?_)
          clear hK K
          try simp only [Act.put, List.getElem_toArray, List.getElem_cons_succ, List.getElem_cons_zero, List.setIfInBounds_toArray, List.set_cons_zero, List.set_cons_succ]
          refine wpAnyH_done (by kernel_rfl) ?_ _
          go_wp2
          (try simp only [Exit.inBlock, Exit.then])
          go_ret
          rw [HR.out]
          exact ⟨rfl, c2, _, _, HGF.out, by first | (rw [List.map_append, HFS.out]; rfl) | (rw [if_pos rfl, List.map_append, HFS.out]; rfl), SF.out⟩
        · have hne : (er != 0) = true := by simp [her]
          have FIN : Hid (LgE w c p d2 B L tm vt lost (l0.map Sv.sg ++ [Sv.sg ⟨yn, yi, yt, yve, yvp, yes, yps⟩]) u4) := ⟨c2, _, _, S6.out.g, by rw [List.map_append]; rfl, S6.out.s⟩
          clear S6 R6 RB
          go_wp2
          (try simp only [Exit.inBlock, Exit.then])
          go_ret
          rw [HR.out]
          first | exact ⟨rfl, FIN.out⟩ | (rw [if_neg her]; exact ⟨rfl, FIN.out⟩) | (refine ⟨rfl, ?_⟩; show LgE _ _ _ _ _ _ _ _ _ (if er = 0 then _ else _) _; rw [if_neg her]; exact FIN.out)
    · obtain ⟨r1, e1, e2⟩ := HL2.out (fun h => hz (by rw [h]; rfl))
      have d1 : decide ((N : Int) > 1) = true := decide_eq_true (by omega)
      have d2 : decide (N > 1) = true := decide_eq_true (by omega)
      have LA : Hid (∀ W, LogI W B L p tm vt lost (.slice (some ⟨g, 0, none⟩) N cap) (l0 ++ [y]) → Calls Tryz.prog 63 #[.pointer (some ⟨L, 0, none⟩)] W fun e w' => e = .returned (.agg #[.int .i64 y.n, .int .i64 y.ix, .int .i64 y.tm, y.ve, y.vp]) ∧ Below W.heap.size W w') := fun W hI => wlast_any hI m (by simp [hm]) (by have := HNL.out; simp; omega) y (by simp [← hm])
      have hw1 : wrap64 (at_ - 1) = at_ - 1 := IntWalk.wrap64_in _ (by have := HAT.out; omega)
      have hw2 : IntKind.i64.wrap (at_ - 1) = at_ - 1 := by have := HAT.out; rw [IntKind.wrap_i64]; omega
      have hfd1 : ∀ W : World, (Instr.field 126 (.agg #[.int .i64 y.n, .int .i64 y.ix, .int .i64 y.tm, y.ve, y.vp]) 1).run Tryz.prog W = .ok (.int .i64 y.ix) W := fun _ => by kernel_rfl
      clear hlen hm hN hz
      by_cases hrm : at_ - 1 ≤ y.ix
      · have g1 : decide (at_ - 1 ≤ y.ix) = true := decide_eq_true hrm
        have g2 : decide (y.ix ≥ at_ - 1) = true := decide_eq_true hrm
        obtain ⟨i0, i1, i2, i3, i4, i5, i6, i7, i8, i9, i10⟩ := SO.out
        have hfl := fnB_len y.n (by omega) (by omega)
        have FI : Hid (∀ W, GV W → Calls Tryz.prog 123 #[.agg #[.int .i64 y.n, .int .i64 y.ix, .int .i64 y.tm, y.ve, y.vp]] W fun e w' => e = .returned (.string ⟨(fnB y.n).toArray⟩) ∧ Below W.heap.size W w') := fun W hG => sgfile_any y.n y.ix y.tm y.ve y.vp W (by omega) (by omega) hG
        have RM : Hid (∀ W c, DiskIs W c p dk → Calls Tryz.prog 122 #[.pointer (some ⟨p, 0, none⟩), .string ⟨(fnB y.n).toArray⟩] W fun e w' => e = .returned (.int .i64 (rmD dk (fnB y.n)).2) ∧ Left W c p (rmD dk (fnB y.n)).1 w') := fun W c D => remove_any p c dk (fnB y.n) W D (by have := HDM.out; omega) HDN.out
        have HPR : Hid (P = if (rmD dk (fnB y.n)).2 = 0 then eaS at_ y0.sg (r1.length + 1) (rmD dk (fnB y.n)).1 (r1.map Sv.sg) else ((rmD dk (fnB y.n)).1, y0.sg :: (r1.map Sv.sg ++ [y.sg]), (rmD dk (fnB y.n)).2)) := by
          show _ = _
          rw [HPE.out, e2, List.map_append, show (r1 ++ [y]).length + 1 = (r1.length + 1) + 1 by simp]
          exact eaS_rm hrm
        have HP2 : Hid (PI (rmD dk (fnB y.n)).1 (K + (j + 1)) (M + (j + 1))) := HPI.out.rm _
        have HR1 : Hid (r1.length < gk ∧ r1.length + (j + 1) ≤ r0.length) := by have h1 := HGK.out; have h2 := HRJ.out; rw [e2, List.length_append, List.length_singleton] at h1 h2; exact ⟨by omega, by omega⟩
        have HSO2 : Hid (∀ z ∈ y0 :: r1, SvO z) := fun z hz => HSO.out z (by rw [e2]; rcases List.mem_cons.1 hz with rfl | hz; simp; simp [hz])
        have HL0 : Hid (l0 = y0 :: r1) := e1
        generalize rmD dk (fnB y.n) = A at *
        obtain ⟨d2, er⟩ := A
        simp only at *
        have ZL : Hid (∀ W ck d, LgD W ck p d B L tm vt lost (.slice (some ⟨g, 0, none⟩) N cap) (l0 ++ [y]) → W.cell? ⟨L, 0, none⟩ = some (.pointer (some ⟨p, 0, none⟩))) := fun W ck d h => h.lg.lg.bx.cellAt (o := 0) rfl
        clear HPE e1 e2 HL1 HL2 HLY GX0 HSO HRM HGK HRJ HPI i0 i1 i2 i3 i4 i5 i6 i7 i8 i9 i10 hfl hrm
        go_wp2_with fail
        refine (LA.out _ GX.out.lg.lg).mono ?_
        rintro e w1 ⟨rfl, b1⟩
        have G1 := hid (GX.out.keep1 (b1.keep _))
        have S1 := hid (SX.out.keep1 (b1.keep _))
        clear GX SX b1 c3l
        go_wp2_with fail
        have G2 := hid (G1.out.keep1 (keep_drew _ _))
        have S2 := hid (S1.out.keep1 (keep_drew (fun _ => False) _))
        clear G1 S1
        refine wp_region_held_drew (S := fun W => W.cell? ⟨L, 0, none⟩ = some (.pointer (some ⟨p, 0, none⟩))) (by kernel_rfl) (ZL.out _ _ _ G2.out) (fun hHeld => ?_)
        generalize w1.drew = u0 at *
        refine wpAnyH_take (i := 0) (v := ?vv1) rfl (by kernel_rfl) (by kernel_rfl) (by kernel_rfl) (fun _ _ _ h => h) (Or.inl ⟨by rfl, ?hy1⟩) (by assumption) ?rest1
        case hy1 => (intro w hSw; (try dsimp only at hSw); go_simp; first | done | with_reducible rfl)
        try simp only [Act.put, List.getElem_toArray, List.getElem_cons_succ, List.getElem_cons_zero, List.setIfInBounds_toArray, List.set_cons_zero, List.set_cons_succ]
        refine wpAnyH_take (i := 1) (v := ?vv2) rfl (by kernel_rfl) (by kernel_rfl) (by kernel_rfl) (fun _ _ _ h => h) (Or.inl ⟨by rfl, ?hy2⟩) (by assumption) ?rest2
        case hy2 => (intro w hSw; (try dsimp only at hSw); go_simp; first | done | with_reducible rfl)
        try simp only [Act.put, List.getElem_toArray, List.getElem_cons_succ, List.getElem_cons_zero, List.setIfInBounds_toArray, List.set_cons_zero, List.set_cons_succ]
        refine wpAnyH_take (i := 2) (v := ?vv3) rfl (by kernel_rfl) (by kernel_rfl) (by kernel_rfl) (fun _ _ _ h => h) (Or.inl ⟨by rfl, ?hy3⟩) (by assumption) ?rest3
        case hy3 => (intro w hSw; (try dsimp only at hSw); go_simp; first | done | with_reducible rfl)
        try simp only [Act.put, List.getElem_toArray, List.getElem_cons_succ, List.getElem_cons_zero, List.setIfInBounds_toArray, List.set_cons_zero, List.set_cons_succ]
        refine wpAnyH_take (i := 3) (v := ?vv4) rfl (by kernel_rfl) (by kernel_rfl) (by kernel_rfl) (fun _ _ _ h => h) (Or.inl ⟨by rfl, ?hy4⟩) (by assumption) ?rest4
        case hy4 => (intro w hSw; (try dsimp only at hSw); go_simp; first | done | with_reducible rfl)
        try simp only [Act.put, List.getElem_toArray, List.getElem_cons_succ, List.getElem_cons_zero, List.setIfInBounds_toArray, List.set_cons_zero, List.set_cons_succ]
        refine wpAnyH_take (i := 4) (v := ?vv5) rfl (by kernel_rfl) (by kernel_rfl) (by kernel_rfl) (fun _ _ _ h => h) (Or.inl ⟨by rfl, ?hy5⟩) (by assumption) ?rest5
        case hy5 => (intro w hSw; (try dsimp only at hSw); go_simp; first | done | with_reducible rfl)
        try simp only [Act.put, List.getElem_toArray, List.getElem_cons_succ, List.getElem_cons_zero, List.setIfInBounds_toArray, List.set_cons_zero, List.set_cons_succ]
        refine wpAnyH_ready (rs := [5]) (by kernel_rfl) (by simp) ?_
        refine AllReadyH.cons rfl (fun K hK => ?_) AllReadyH.nil
        go_simp
        refine (LA.out _ G2.out.lg.lg).mono ?_
        rintro e u1 ⟨rfl, bb⟩
        have G3 := hid (G2.out.keep1 (bb.keep _))
        have S3 := hid (S2.out.keep1 (bb.keep _))
        clear bb G2 S2 hHeld
        go_wp2_with fail
        refine hK.out _ _ (ZL.out _ _ _ G3.out) (fun hHeld => ?_)
        clear hK K
        try simp only [Act.put, List.getElem_toArray, List.getElem_cons_succ, List.getElem_cons_zero, List.setIfInBounds_toArray, List.set_cons_zero, List.set_cons_succ]
        refine wpAnyH_ready (rs := [6]) (by kernel_rfl) (by simp) ?_
        refine AllReadyH.cons rfl (fun K hK => ?_) AllReadyH.nil
        go_simp
        refine (FI.out _ G3.out.gv).mono ?_
        rintro e u2 ⟨rfl, bb⟩
        have G4 := hid (G3.out.keep1 (bb.keep _))
        have S4 := hid (S3.out.keep1 (bb.keep _))
        clear bb G3 S3 FI hHeld
        go_wp2_with fail
        refine hK.out _ _ (ZL.out _ _ _ G4.out) (fun hHeld => ?_)
        clear hK K
        try simp only [Act.put, List.getElem_toArray, List.getElem_cons_succ, List.getElem_cons_zero, List.setIfInBounds_toArray, List.set_cons_zero, List.set_cons_succ]
        refine wpAnyH_ready (rs := [7]) (by kernel_rfl) (by simp) ?_
        refine AllReadyH.cons rfl (fun K hK => ?_) AllReadyH.nil
        go_simp
        refine (RM.out _ _ G4.out.lg.dk).mono ?_
        rintro e u3 ⟨rfl, hL⟩
        obtain ⟨c2, g5, s5⟩ := G4.out.left hL
        have G5 := hid g5
        have S5 := hid (S4.out.trans s5)
        clear hL g5 s5 G4 S4 RM hHeld
        go_wp2_with fail
        refine hK.out _ _ (ZL.out _ _ _ G5.out) (fun hHeld => ?_)
        clear hK K
        try simp only [Act.put, List.getElem_toArray, List.getElem_cons_succ, List.getElem_cons_zero, List.setIfInBounds_toArray, List.set_cons_zero, List.set_cons_succ]
        refine wpAnyH_take (i := 8) (v := ?vv6) rfl (by kernel_rfl) (by kernel_rfl) (by kernel_rfl) (fun _ _ _ h => h) (Or.inl ⟨by rfl, ?hy6⟩) (by assumption) ?rest6
        case hy6 => (intro w hSw; (try dsimp only at hSw); go_simp; first | done | with_reducible rfl)
        try simp only [Act.put, List.getElem_toArray, List.getElem_cons_succ, List.getElem_cons_zero, List.setIfInBounds_toArray, List.set_cons_zero, List.set_cons_succ]
        refine wpAnyH_done (by kernel_rfl) ?_ _
        clear hHeld ZL LA
        by_cases her : er = 0
        · subst her
          have HPQ := hid (HPR.out.trans (if_pos rfl))
          have c3l := G5.out.lg.lg.bx.cellAt (o := 3) rfl
          have f3l : u3.frozen? ⟨L, 3, none⟩ = false := G5.out.lg.lg.bx.frozen
          have hcap : m ≤ cap := by
            obtain ⟨g9, cap9, e9, h9⟩ := G5.out.lg.lg.sg.row.form1 (by simp)
            rw [List.length_append, HM.out, List.length_singleton, HNM.out] at e9 h9
            injection e9 with _ _ e93
            omega
          have q6 : (m : Int) ≤ (cap : Int) := by omega
          have HSC := G5.out.lg.lg.sg.cut HM.out HNM.out (by have := q3; omega)
          have bx5 := G5.out.lg.lg.bx
          have kS := keep_setCell u3 L 3 (.slice (some ⟨g, 0, none⟩) m m)
          have sg6 : SgsI (u3.setCell ⟨L, 3, none⟩ (.slice (some ⟨g, 0, none⟩) m m)) B (.slice (some ⟨g, 0, none⟩) m m) l0 := HSC.keep kS (HSC.row.not_row bx5 (by decide)) (fun z hz q hq => by
            rcases hq with hq | hq
            · exact (HSC.sg z hz).oe.not_row bx5 (by decide) q hq
            · exact (HSC.sg z hz).oi.not_row bx5 (by decide) q hq)
          obtain ⟨g6, s6⟩ := G5.out.own (kS.mono (fun q _ e => by rw [e]; exact G5.out.cL)) ⟨bx5.set 3 _, sg6⟩ (fun q hq => G5.out.cv q hq) (fun z hz q hq => G5.out.cs z (List.mem_append_left _ hz) q hq)
          have G6 := hid g6
          have S6 := hid (S5.out.trans s6)
          clear HSC bx5 kS sg6 g6 s6 G5 S5 HPR hcap
          go_wp2
          go_roundg r1.length
          case measure => exact HR1.out.1
          case rel => exact ⟨r1, d2, c2, _, j + 1, Nat.le_refl _, HR1.out.2, HSO2.out, HPQ.out, HP2.out, by rw [← HL0.out]; exact G6.out, S6.out⟩
        · have hne : (er != 0) = true := by simp [her]
          obtain rfl : P = (d2, y0.sg :: (r1.map Sv.sg ++ [y.sg]), er) := HPR.out.trans (if_neg her)
          have FIN : Hid (LgE w c p d2 B L tm vt lost (y0.sg :: (r1.map Sv.sg ++ [y.sg])) u3) := ⟨c2, _, _, G5.out, by rw [HL0.out]; simp, S5.out⟩
          clear HPR G5 S5 HP2 HR1 HSO2
          go_wp2
          (try simp only [Exit.inBlock, Exit.then])
          go_ret
          exact ⟨rfl, FIN.out⟩
      · have g1 : decide (at_ - 1 ≤ y.ix) = false := decide_eq_false hrm
        have g2 : decide (y.ix ≥ at_ - 1) = false := decide_eq_false hrm
        have HCT : Hid (P = ctS dk (l0.map Sv.sg) y.sg at_) := by
          show _ = _
          rw [HPE.out, e2, e1, List.map_append]
          exact eaS_last hrm
        have HAX : Hid (y.ix < at_ ∧ at_ ≤ 4611686018427387904 ∧ 0 ≤ y.ix) := ⟨by omega, HAT.out.2.1, SO.out.1⟩
        go_wp2_with fail
        refine (LA.out _ GX.out.lg.lg).mono ?_
        rintro e wc ⟨rfl, bc⟩
        have GXc := hid (GX.out.keep1 (bc.keep _))
        have SXc := hid (SX.out.keep1 (bc.keep _))
        go_wp2_with fail
        clear GX SX bc LA HPE e1 e2 HL1 HL2 HLY GX0 HSO HRM hw1 hw2 hfd1 c3l
        have GX := GXc
        have SX := SXc
        clear GXc SXc
        obtain ⟨i0, i1, i2, i3, i4, i5, i6, i7, i8, i9, i10⟩ := SO.out
        obtain ⟨c1, g1, s1, n1⟩ := GX.out.fresh (Keep.refl _ _)
        have G1 := hid g1
        have S1 := hid (SX.out.trans s1)
        have N1 := hid n1
        have hym : y ∈ l0 ++ [y] := by simp
        have LAST : Hid (∀ W, LogI W B L p tm vt lost (.slice (some ⟨g, 0, none⟩) N cap) (l0 ++ [y]) → Calls Tryz.prog 63 #[.pointer (some ⟨L, 0, none⟩)] W fun e w' => e = .returned (.agg #[.int .i64 y.n, .int .i64 y.ix, .int .i64 y.tm, y.ve, y.vp]) ∧ Below W.heap.size W w') := fun W hI => wlast_any hI m (by simp [HM.out]) (by have := HNL.out; have := HM.out; simp; omega) y (by simp [← HM.out])
        obtain ⟨n, hn⟩ : ∃ n : Nat, at_ - 1 - y.ix = (n : Int) := ⟨(at_ - 1 - y.ix).toNat, by have := HAX.out; omega⟩
        have HCT1 : Hid (P = if (y.es.length : Int) ≤ at_ - 1 - y.ix then (dk, l0.map Sv.sg ++ [y.sg], 0) else ((cuD dk (fnB y.n) (fsG y.sg (at_ - 1 - y.ix).toNat).sz).1, if (cuD dk (fnB y.n) (fsG y.sg (at_ - 1 - y.ix).toNat).sz).2 = 0 then l0.map Sv.sg ++ [fsG y.sg (at_ - 1 - y.ix).toNat] else l0.map Sv.sg ++ [y.sg], (cuD dk (fnB y.n) (fsG y.sg (at_ - 1 - y.ix).toNat).sz).2)) := HCT.out
        have ha2 : at_ - 1 - y.ix = (n : Int) := hn
        have hw1 : wrap64 (at_ - 1) = at_ - 1 := IntWalk.wrap64_in _ (by have := HAX.out; omega)
        have hw2 : IntKind.i64.wrap (at_ - 1) = at_ - 1 := by have := HAX.out; rw [IntKind.wrap_i64]; omega
        have hw3 : IntKind.i64.wrap (n : Int) = (n : Int) := by have := HAX.out; rw [IntKind.wrap_i64]; omega
        have hfd1 : ∀ W : World, (Instr.field 126 (.agg #[.int .i64 y.n, .int .i64 y.ix, .int .i64 y.tm, y.ve, y.vp]) 1).run Tryz.prog W = .ok (.int .i64 y.ix) W := fun _ => by kernel_rfl
        have hfd3 : ∀ W : World, (Instr.field 126 (.agg #[.int .i64 y.n, .int .i64 y.ix, .int .i64 y.tm, y.ve, y.vp]) 3).run Tryz.prog W = .ok y.ve W := fun _ => by kernel_rfl
        have hyi := g1.lg.lg.sg.sg y hym
        obtain ⟨pg, pcap, hvp, hpc⟩ := hyi.oi.form1 (by omega)
        have HVP := hid hvp
        have HPC := hid hpc
        clear g1 s1 n1 HCT hvp hpc
        by_cases hle : (y.es.length : Int) ≤ (n : Int)
        · obtain ⟨ea, ec, hve⟩ := hyi.oe.form
          have HR : Hid (P = (dk, l0.map Sv.sg ++ [y.sg], 0)) := HCT1.out.trans (if_pos (by rw [hn]; exact hle))
          have g1 : decide ((y.es.length : Int) ≤ (n : Int)) = true := decide_eq_true hle
          have g2 : decide (y.es.length ≤ n) = true := decide_eq_true (by omega)
          rw [hve] at LAST hfd1 hfd3
          obtain ⟨yn, yi, yt, yve, yvp, yes, yps⟩ := y
          simp only at *
          clear HCT1 hyi hve hle hn i0 i1 i2 i3 i4 i5 i6 i7 i8 i9 i10
          refine (LAST.out _ G1.out.lg.lg).mono ?_
          rintro e w1 ⟨rfl, b1⟩
          have G2 := hid (G1.out.keep1 (b1.keep _))
          have S2 := hid (S1.out.keep1 (b1.keep _))
          clear b1 G1 S1
          go_wp2_with fail
          refine (LAST.out _ G2.out.lg.lg).mono ?_
          rintro e w2 ⟨rfl, b1⟩
          have G3 := hid (G2.out.keep1 (b1.keep _))
          have S3 := hid (S2.out.keep1 (b1.keep _))
          clear b1 G2 S2 LAST
          have FIN : Hid (LgE w c p dk B L tm vt lost (l0.map Sv.sg ++ [Sv.sg ⟨yn, yi, yt, yve, yvp, yes, yps⟩]) w2) := ⟨c1, _, _, G3.out, by rw [List.map_append]; rfl, S3.out⟩
          clear G3 S3 GX SX
          go_wp2
          (try simp only [Exit.inBlock, Exit.then])
          go_ret
          rw [HR.out]
          exact ⟨rfl, FIN.out⟩
        · have hlt : n < y.es.length := by omega
          obtain ⟨b1, ec, hve, hec⟩ := hyi.oe.form1 (by omega)
          have HR : Hid (P = ((cuD dk (fnB y.n) (fsG y.sg n).sz).1, if (cuD dk (fnB y.n) (fsG y.sg n).sz).2 = 0 then l0.map Sv.sg ++ [fsG y.sg n] else l0.map Sv.sg ++ [y.sg], (cuD dk (fnB y.n) (fsG y.sg n).sz).2)) := by
            have h9 := HCT1.out.trans (if_neg (by rw [hn]; exact hle))
            rw [hn] at h9
            exact h9
          have g1 : decide ((y.es.length : Int) ≤ (n : Int)) = false := decide_eq_false hle
          have g2 : decide (y.es.length ≤ n) = false := decide_eq_false (by omega)
          have hnp : n + 1 ≤ y.ps.length := by omega
          have FR := hid (fun W => sgfirst_any y.n y.ix y.tm b1 y.es.length ec pg y.ps.length pcap n W (by omega) (by have := HPC.out; omega) (by omega))
          have XI : Hid (∀ W, SvI W B y → SvI W B ⟨y.n, y.ix, y.tm, .slice (some ⟨b1, 0, none⟩) n n, .slice (some ⟨pg, 0, none⟩) (n + 1) (n + 1), y.es.take n, y.ps.take (n + 1)⟩) := fun W h => by
            have h1 := h.oe
            have h2 := h.oi
            rw [hve] at h1
            rw [HVP.out] at h2
            have q1 := h1.cut n (by omega) (by omega)
            have q2 := h2.cut (n + 1) hnp (by omega)
            refine ⟨?_, ?_⟩
            · show ORow W B 68 3 _ (y.es.take n).length (ensC (y.es.take n))
              rw [List.length_take, Nat.min_eq_left (by omega), ← ensC_take]
              exact q1
            · show ORow W B 3 1 _ (y.ps.take (n + 1)).length (isC (y.ps.take (n + 1)))
              rw [List.length_take, Nat.min_eq_left hnp, ← isC_take]
              exact q2
          have FI : Hid (∀ W, GV W → Calls Tryz.prog 123 #[.agg #[.int .i64 y.n, .int .i64 y.ix, .int .i64 y.tm, .slice (some ⟨b1, 0, none⟩) n n, .slice (some ⟨pg, 0, none⟩) (n + 1) (n + 1)]] W fun e w' => e = .returned (.string ⟨(fnB y.n).toArray⟩) ∧ Below W.heap.size W w') := fun W hG => sgfile_any y.n y.ix y.tm _ _ W (by omega) (by omega) hG
          have SZ0 : Hid (∀ W, SvI W B ⟨y.n, y.ix, y.tm, .slice (some ⟨b1, 0, none⟩) n n, .slice (some ⟨pg, 0, none⟩) (n + 1) (n + 1), y.es.take n, y.ps.take (n + 1)⟩ → Calls Tryz.prog 105 #[.agg #[.int .i64 y.n, .int .i64 y.ix, .int .i64 y.tm, .slice (some ⟨b1, 0, none⟩) n n, .slice (some ⟨pg, 0, none⟩) (n + 1) (n + 1)]] W fun e w' => e = .returned (.int .i64 (fsG y.sg n).sz) ∧ Below W.heap.size W w') := fun W h => sgsize_any y.n y.ix y.tm _ _ (y.ps.take (n + 1)) W h.oi.ints (by rw [List.length_take]; omega) (by rw [List.length_take]; omega)
          have hfl := fnB_len y.n (by omega) (by omega)
          have CU : Hid (∀ W c, DiskIs W c p dk → Calls Tryz.prog 148 #[.pointer (some ⟨p, 0, none⟩), .string ⟨(fnB y.n).toArray⟩, .int .i64 (fsG y.sg n).sz] W fun e w' => e = .returned (.int .i64 (cuD dk (fnB y.n) (fsG y.sg n).sz).2) ∧ Left W c p (cuD dk (fnB y.n) (fsG y.sg n).sz).1 w') := fun W c D => cut_any p c dk (fnB y.n) _ W D (by have := HDM.out; omega) HDN.out
          have HVE := hid hve
          rw [hve, HVP.out] at LAST hfd1
          rw [hve] at hfd3
          rw [HVP.out] at hfd3
          generalize cuD dk (fnB y.n) (fsG y.sg n).sz = A at *
          generalize (fsG y.sg n).sz = z at *
          obtain ⟨d2, er⟩ := A
          have CB : Hid (∀ j, y.ve.ownBlock = some j ∨ y.vp.ownBlock = some j → c1 j = 8) := fun j hj => G1.out.cs y hym j hj
          have HFS : Hid (fsG y.sg n = Sv.sg ⟨y.n, y.ix, y.tm, .slice (some ⟨b1, 0, none⟩) n n, .slice (some ⟨pg, 0, none⟩) (n + 1) (n + 1), y.es.take n, y.ps.take (n + 1)⟩) := rfl
          have XAP : Hid (∀ a ∈ l0, (∀ j, a.ve.ownBlock = some j → ¬ (Value.slice (some ⟨b1, 0, none⟩) n n).ownBlock = some j) ∧ ∀ j, a.vp.ownBlock = some j → ¬ (Value.slice (some ⟨pg, 0, none⟩) (n + 1) (n + 1)).ownBlock = some j) := fun a ha => by
            have e1 := (List.pairwise_append.1 G1.out.lg.lg.sg.ae).2.2 a ha y (by simp)
            have e2 := (List.pairwise_append.1 G1.out.lg.lg.sg.ai).2.2 a ha y (by simp)
            rw [hve] at e1
            rw [HVP.out] at e2
            exact ⟨e1, e2⟩
          have HGW : Hid (g < wc.heap.size) := G1.out.lg.lg.bltv rfl
          obtain ⟨yn, yi, yt, yve, yvp, yes, yps⟩ := y
          simp only at *
          clear HCT1 hyi hle hn i0 i1 i2 i3 i4 i5 i6 i7 i8 i9 i10 hfl hnp hec
          refine (LAST.out _ G1.out.lg.lg).mono ?_
          rintro e w1 ⟨rfl, b3⟩
          have G2 := hid (G1.out.keep1 (b3.keep _))
          have S2 := hid (S1.out.keep1 (b3.keep _))
          have HB2 := hid b3
          clear b3 G1 S1
          go_wp2_with fail
          refine (LAST.out _ G2.out.lg.lg).mono ?_
          rintro e w2 ⟨rfl, b3⟩
          have G3 := hid (G2.out.keep1 (b3.keep _))
          have S3 := hid (S2.out.keep1 (b3.keep _))
          have HB3 := hid (below_on HB2.out b3)
          clear b3 G2 S2 HB2
          go_wp2_with fail
          refine (LAST.out _ G3.out.lg.lg).mono ?_
          rintro e w3 ⟨rfl, b3⟩
          have G4 := hid (G3.out.keep1 (b3.keep _))
          have S4 := hid (S3.out.keep1 (b3.keep _))
          have HB4 := hid (below_on HB3.out b3)
          clear b3 G3 S3 HB3 LAST hfd1 hfd3
          unfold sgV at FR
          go_wp2_with fail
          refine (FR.out _).mono ?_
          rintro e w4 ⟨rfl, b3⟩
          have S5p : Hid (FlS w c p dk B L tm vt lost (.slice (some ⟨g, 0, none⟩) N cap) (l0 ++ [⟨yn, yi, yt, yve, yvp, yes, yps⟩]) w4.heap.size ⟨yn, yi, yt, .slice (some ⟨b1, 0, none⟩) n n, .slice (some ⟨pg, 0, none⟩) (n + 1) (n + 1), yes.take n, yps.take (n + 1)⟩ c1 (w4.alloc (.cells #[.int .i64 yn, .int .i64 yi, .int .i64 yt, .slice (some ⟨b1, 0, none⟩) n n, .slice (some ⟨pg, 0, none⟩) (n + 1) (n + 1)] 126))) := by
            have k : Keep (fun _ => False) w3 (w4.alloc (.cells #[.int .i64 yn, .int .i64 yi, .int .i64 yt, .slice (some ⟨b1, 0, none⟩) n n, .slice (some ⟨pg, 0, none⟩) (n + 1) (n + 1)] 126)) := (b3.keep _).trans (keep_alloc _ _ _)
            have g5 := G4.out.keep1 k
            refine ⟨g5, S4.out.keep1 k, srow w4 _ _, XI.out _ (g5.lg.lg.sg.sg _ hym), N1.out _ (Nat.le_trans HB4.out.size b3.size), fun j hj => CB.out j ?_⟩
            rw [HVE.out, HVP.out]
            exact hj
          have HBX : Hid (g ≠ w4.heap.size) := by have := HGW.out; have := HB4.out.size; have := b3.size; show _ ≠ _; omega
          have RB : Hid (∀ c2 d W, FlS w c p d B L tm vt lost (.slice (some ⟨g, 0, none⟩) N cap) (l0 ++ [⟨yn, yi, yt, yve, yvp, yes, yps⟩]) w4.heap.size ⟨yn, yi, yt, .slice (some ⟨b1, 0, none⟩) n n, .slice (some ⟨pg, 0, none⟩) (n + 1) (n + 1), yes.take n, yps.take (n + 1)⟩ c2 W → RowIs W w4.heap.size [.int .i64 yn, .int .i64 yi, .int .i64 yt, .slice (some ⟨b1, 0, none⟩) n n, .slice (some ⟨pg, 0, none⟩) (n + 1) (n + 1)] 126) := fun c2 d W h => h.b
          have SZ : Hid (∀ c2 d W, FlS w c p d B L tm vt lost (.slice (some ⟨g, 0, none⟩) N cap) (l0 ++ [⟨yn, yi, yt, yve, yvp, yes, yps⟩]) w4.heap.size ⟨yn, yi, yt, .slice (some ⟨b1, 0, none⟩) n n, .slice (some ⟨pg, 0, none⟩) (n + 1) (n + 1), yes.take n, yps.take (n + 1)⟩ c2 W → Calls Tryz.prog 105 #[.agg #[.int .i64 yn, .int .i64 yi, .int .i64 yt, .slice (some ⟨b1, 0, none⟩) n n, .slice (some ⟨pg, 0, none⟩) (n + 1) (n + 1)]] W fun e w' => e = .returned (.int .i64 z) ∧ Below W.heap.size W w') := fun c2 d W h => SZ0.out W h.xi
          clear b3 G4 S4 HB4 FR XI SZ0 N1 CB GX SX
          (try unfold sgV)
          go_wp2_with fail
          generalize w4.alloc (.cells #[.int .i64 yn, .int .i64 yi, .int .i64 yt, .slice (some ⟨b1, 0, none⟩) n n, .slice (some ⟨pg, 0, none⟩) (n + 1) (n + 1)] 126) = W3 at *
          generalize w4.heap.size = bx at *
          have S3 := hid (S5p.out.next (Below.refl _ _).drew)
          clear S5p
          have R3 := hid (RB.out _ _ _ S3.out)
          have Z0 : (W3.drew.cell? ⟨L, 0, none⟩ = some (.pointer (some ⟨p, 0, none⟩)) ∧ W3.drew.cell? ⟨bx, 0, none⟩ = some (.int .i64 yn) ∧ W3.drew.cell? ⟨bx, 1, none⟩ = some (.int .i64 yi) ∧ W3.drew.cell? ⟨bx, 2, none⟩ = some (.int .i64 yt) ∧ W3.drew.cell? ⟨bx, 3, none⟩ = some (.slice (some ⟨b1, 0, none⟩) n n) ∧ W3.drew.cell? ⟨bx, 4, none⟩ = some (.slice (some ⟨pg, 0, none⟩) (n + 1) (n + 1))) := ⟨S3.out.g.lg.lg.bx.cellAt (o := 0) rfl, R3.out.cellAt (o := 0) rfl, R3.out.cellAt (o := 1) rfl, R3.out.cellAt (o := 2) rfl, R3.out.cellAt (o := 3) rfl, R3.out.cellAt (o := 4) rfl⟩
          refine wp_region_held_drew (S := fun W => W.cell? ⟨L, 0, none⟩ = some (.pointer (some ⟨p, 0, none⟩)) ∧ W.cell? ⟨bx, 0, none⟩ = some (.int .i64 yn) ∧ W.cell? ⟨bx, 1, none⟩ = some (.int .i64 yi) ∧ W.cell? ⟨bx, 2, none⟩ = some (.int .i64 yt) ∧ W.cell? ⟨bx, 3, none⟩ = some (.slice (some ⟨b1, 0, none⟩) n n) ∧ W.cell? ⟨bx, 4, none⟩ = some (.slice (some ⟨pg, 0, none⟩) (n + 1) (n + 1))) (by kernel_rfl) Z0 (fun hHeld => ?_)
          generalize W3.drew = u0 at *
          refine wpAnyH_take (i := 0) (v := ?vv26) rfl (by kernel_rfl) (by kernel_rfl) (by kernel_rfl) (fun _ _ _ h => h) (Or.inl ⟨by rfl, ?hy26⟩) (by assumption) ?rest26
          case hy26 => (intro w hSw; (try dsimp only at hSw); go_simp; first | done | with_reducible rfl)
          try simp only [Act.put, List.getElem_toArray, List.getElem_cons_succ, List.getElem_cons_zero, List.setIfInBounds_toArray, List.set_cons_zero, List.set_cons_succ]
          refine wpAnyH_take (i := 1) (v := ?vv27) rfl (by kernel_rfl) (by kernel_rfl) (by kernel_rfl) (fun _ _ _ h => h) (Or.inl ⟨by rfl, ?hy27⟩) (by assumption) ?rest27
          case hy27 => (intro w hSw; (try dsimp only at hSw); go_simp; first | done | with_reducible rfl)
          try simp only [Act.put, List.getElem_toArray, List.getElem_cons_succ, List.getElem_cons_zero, List.setIfInBounds_toArray, List.set_cons_zero, List.set_cons_succ]
          refine wpAnyH_take (i := 2) (v := ?vv28) rfl (by kernel_rfl) (by kernel_rfl) (by kernel_rfl) (fun _ _ _ h => h) (Or.inl ⟨by rfl, ?hy28⟩) (by assumption) ?rest28
          case hy28 => (intro w hSw; (try dsimp only at hSw); go_simp; first | done | with_reducible rfl)
          try simp only [Act.put, List.getElem_toArray, List.getElem_cons_succ, List.getElem_cons_zero, List.setIfInBounds_toArray, List.set_cons_zero, List.set_cons_succ]
          refine wpAnyH_take (i := 3) (v := ?vv29) rfl (by kernel_rfl) (by kernel_rfl) (by kernel_rfl) (fun _ _ _ h => h) (Or.inl ⟨by rfl, ?hy29⟩) (by assumption) ?rest29
          case hy29 => (intro w hSw; (try dsimp only at hSw); go_simp; first | done | with_reducible rfl)
          try simp only [Act.put, List.getElem_toArray, List.getElem_cons_succ, List.getElem_cons_zero, List.setIfInBounds_toArray, List.set_cons_zero, List.set_cons_succ]
          refine wpAnyH_take (i := 4) (v := ?vv30) rfl (by kernel_rfl) (by kernel_rfl) (by kernel_rfl) (fun _ _ _ h => h) (Or.inl ⟨by rfl, ?hy30⟩) (by assumption) ?rest30
          case hy30 => (intro w hSw; (try dsimp only at hSw); go_simp; first | done | with_reducible rfl)
          try simp only [Act.put, List.getElem_toArray, List.getElem_cons_succ, List.getElem_cons_zero, List.setIfInBounds_toArray, List.set_cons_zero, List.set_cons_succ]
          refine wpAnyH_take (i := 6) (v := ?vv31) rfl (by kernel_rfl) (by kernel_rfl) (by kernel_rfl) (fun _ _ _ h => h) (Or.inl ⟨by rfl, ?hy31⟩) (by assumption) ?rest31
          case hy31 => (intro w hSw; (try dsimp only at hSw); go_simp; first | done | with_reducible rfl)
          try simp only [Act.put, List.getElem_toArray, List.getElem_cons_succ, List.getElem_cons_zero, List.setIfInBounds_toArray, List.set_cons_zero, List.set_cons_succ]
          refine wpAnyH_ready (rs := [5]) (by kernel_rfl) (by simp) ?_
          refine AllReadyH.cons rfl (fun K hK => ?_) AllReadyH.nil
          go_simp
          refine (FI.out _ S3.out.g.gv).mono ?_
          rintro e u1 ⟨rfl, bb⟩
          have S4 := hid (S3.out.next bb)
          have R4 := hid (RB.out _ _ _ S4.out)
          have Z1 : (u1.cell? ⟨L, 0, none⟩ = some (.pointer (some ⟨p, 0, none⟩)) ∧ u1.cell? ⟨bx, 0, none⟩ = some (.int .i64 yn) ∧ u1.cell? ⟨bx, 1, none⟩ = some (.int .i64 yi) ∧ u1.cell? ⟨bx, 2, none⟩ = some (.int .i64 yt) ∧ u1.cell? ⟨bx, 3, none⟩ = some (.slice (some ⟨b1, 0, none⟩) n n) ∧ u1.cell? ⟨bx, 4, none⟩ = some (.slice (some ⟨pg, 0, none⟩) (n + 1) (n + 1))) := ⟨S4.out.g.lg.lg.bx.cellAt (o := 0) rfl, R4.out.cellAt (o := 0) rfl, R4.out.cellAt (o := 1) rfl, R4.out.cellAt (o := 2) rfl, R4.out.cellAt (o := 3) rfl, R4.out.cellAt (o := 4) rfl⟩
          clear bb S3 R3 hHeld
          go_wp2_with fail
          refine hK.out _ _ Z1 (fun hHeld => ?_)
          clear hK K
          try simp only [Act.put, List.getElem_toArray, List.getElem_cons_succ, List.getElem_cons_zero, List.setIfInBounds_toArray, List.set_cons_zero, List.set_cons_succ]
          refine wpAnyH_ready (rs := [7]) (by kernel_rfl) (by simp) ?_
          refine AllReadyH.cons rfl (fun K hK => ?_) AllReadyH.nil
          go_simp
          refine (SZ.out _ _ _ S4.out).mono ?_
          rintro e u2 ⟨rfl, bb⟩
          clear Z1
          have S5 := hid (S4.out.next bb)
          have R5 := hid (RB.out _ _ _ S5.out)
          have Z1 : (u2.cell? ⟨L, 0, none⟩ = some (.pointer (some ⟨p, 0, none⟩)) ∧ u2.cell? ⟨bx, 0, none⟩ = some (.int .i64 yn) ∧ u2.cell? ⟨bx, 1, none⟩ = some (.int .i64 yi) ∧ u2.cell? ⟨bx, 2, none⟩ = some (.int .i64 yt) ∧ u2.cell? ⟨bx, 3, none⟩ = some (.slice (some ⟨b1, 0, none⟩) n n) ∧ u2.cell? ⟨bx, 4, none⟩ = some (.slice (some ⟨pg, 0, none⟩) (n + 1) (n + 1))) := ⟨S5.out.g.lg.lg.bx.cellAt (o := 0) rfl, R5.out.cellAt (o := 0) rfl, R5.out.cellAt (o := 1) rfl, R5.out.cellAt (o := 2) rfl, R5.out.cellAt (o := 3) rfl, R5.out.cellAt (o := 4) rfl⟩
          clear bb S4 R4 hHeld
          go_wp2_with fail
          refine hK.out _ _ Z1 (fun hHeld => ?_)
          clear hK K
          try simp only [Act.put, List.getElem_toArray, List.getElem_cons_succ, List.getElem_cons_zero, List.setIfInBounds_toArray, List.set_cons_zero, List.set_cons_succ]
          refine wpAnyH_ready (rs := [8]) (by kernel_rfl) (by simp) ?_
          refine AllReadyH.cons rfl (fun K hK => ?_) AllReadyH.nil
          go_simp
          refine (CU.out _ _ S5.out.g.lg.dk).mono ?_
          rintro e u4 ⟨rfl, hL⟩
          obtain ⟨c2, s5⟩ := S5.out.left hL
          have S6 := hid s5
          have R6 := hid (RB.out _ _ _ S6.out)
          have Z2 : (u4.cell? ⟨L, 0, none⟩ = some (.pointer (some ⟨p, 0, none⟩)) ∧ u4.cell? ⟨bx, 0, none⟩ = some (.int .i64 yn) ∧ u4.cell? ⟨bx, 1, none⟩ = some (.int .i64 yi) ∧ u4.cell? ⟨bx, 2, none⟩ = some (.int .i64 yt) ∧ u4.cell? ⟨bx, 3, none⟩ = some (.slice (some ⟨b1, 0, none⟩) n n) ∧ u4.cell? ⟨bx, 4, none⟩ = some (.slice (some ⟨pg, 0, none⟩) (n + 1) (n + 1))) := ⟨S6.out.g.lg.lg.bx.cellAt (o := 0) rfl, R6.out.cellAt (o := 0) rfl, R6.out.cellAt (o := 1) rfl, R6.out.cellAt (o := 2) rfl, R6.out.cellAt (o := 3) rfl, R6.out.cellAt (o := 4) rfl⟩
          clear s5 hL CU S5 R5 Z1 hHeld
          go_wp2_with fail
          refine hK.out _ _ Z2 (fun hHeld => ?_)
          clear hK K
          try simp only [Act.put, List.getElem_toArray, List.getElem_cons_succ, List.getElem_cons_zero, List.setIfInBounds_toArray, List.set_cons_zero, List.set_cons_succ]
          refine wpAnyH_take (i := 9) (v := ?vv32) rfl (by kernel_rfl) (by kernel_rfl) (by kernel_rfl) (fun _ _ _ h => h) (Or.inl ⟨by rfl, ?hy32⟩) (by assumption) ?rest32
          case hy32 => (intro w hSw; (try dsimp only at hSw); go_simp; first | done | with_reducible rfl)
          try simp only [Act.put, List.getElem_toArray, List.getElem_cons_succ, List.getElem_cons_zero, List.setIfInBounds_toArray, List.set_cons_zero, List.set_cons_succ]
          refine wpAnyH_done (by kernel_rfl) ?_ _
          clear Z2 hHeld FI SZ
          by_cases her : er = 0
          · subst her
            go_wp2_with fail
            have S7 := hid (S6.out.next (Below.refl _ _).drew)
            have R7 := hid (RB.out _ _ _ S7.out)
            have Z5 : (u4.drew.cell? ⟨L, 3, none⟩ = some (.slice (some ⟨g, 0, none⟩) N cap) ∧ u4.drew.cell? ⟨bx, 0, none⟩ = some (.int .i64 yn) ∧ u4.drew.cell? ⟨bx, 1, none⟩ = some (.int .i64 yi) ∧ u4.drew.cell? ⟨bx, 2, none⟩ = some (.int .i64 yt) ∧ u4.drew.cell? ⟨bx, 3, none⟩ = some (.slice (some ⟨b1, 0, none⟩) n n) ∧ u4.drew.cell? ⟨bx, 4, none⟩ = some (.slice (some ⟨pg, 0, none⟩) (n + 1) (n + 1))) := ⟨S7.out.g.lg.lg.bx.cellAt (o := 3) rfl, R7.out.cellAt (o := 0) rfl, R7.out.cellAt (o := 1) rfl, R7.out.cellAt (o := 2) rfl, R7.out.cellAt (o := 3) rfl, R7.out.cellAt (o := 4) rfl⟩
            have LST := S7.out.g.lg.lg.sg.last (x := ⟨yn, yi, yt, .slice (some ⟨b1, 0, none⟩) n n, .slice (some ⟨pg, 0, none⟩) (n + 1) (n + 1), yes.take n, yps.take (n + 1)⟩) HM.out HNM.out S7.out.xi (fun a ha => (XAP.out a ha).1) (fun a ha => (XAP.out a ha).2) rfl
            simp only at LST
            have hLg : ¬ L = g := fun e => S7.out.g.lg.lg.sg.row.ne_row S7.out.g.lg.lg.bx (by decide) (by rw [e]; rfl)
            have GF := hid (S7.out.g.own (LST.2.mono (fun j _ e => by rw [e]; exact S7.out.g.cv g rfl)) ⟨S7.out.g.lg.lg.bx.keep LST.2 hLg, LST.1⟩ S7.out.g.cv (fun z hz j hj => by
              rcases List.mem_append.1 hz with hz | hz
              · exact S7.out.g.cs z (List.mem_append_left _ hz) j hj
              · rw [List.mem_singleton.1 hz] at hj; exact S7.out.cx j hj))
            have SF := hid (S7.out.s.trans GF.out.2)
            have RF := hid (R7.out.keep LST.2 (fun e => HBX.out e.symm))
            have Z6 : ((((((u4.drew.setCell ⟨g, m * 5, none⟩ (.int .i64 yn)).setCell ⟨g, m * 5 + 1, none⟩ (.int .i64 yi)).setCell ⟨g, m * 5 + 2, none⟩ (.int .i64 yt)).setCell ⟨g, m * 5 + 3, none⟩ (.slice (some ⟨b1, 0, none⟩) n n)).setCell ⟨g, m * 5 + 4, none⟩ (.slice (some ⟨pg, 0, none⟩) (n + 1) (n + 1))).cell? ⟨L, 3, none⟩ = some (.slice (some ⟨g, 0, none⟩) N cap) ∧ (((((u4.drew.setCell ⟨g, m * 5, none⟩ (.int .i64 yn)).setCell ⟨g, m * 5 + 1, none⟩ (.int .i64 yi)).setCell ⟨g, m * 5 + 2, none⟩ (.int .i64 yt)).setCell ⟨g, m * 5 + 3, none⟩ (.slice (some ⟨b1, 0, none⟩) n n)).setCell ⟨g, m * 5 + 4, none⟩ (.slice (some ⟨pg, 0, none⟩) (n + 1) (n + 1))).cell? ⟨bx, 0, none⟩ = some (.int .i64 yn) ∧ (((((u4.drew.setCell ⟨g, m * 5, none⟩ (.int .i64 yn)).setCell ⟨g, m * 5 + 1, none⟩ (.int .i64 yi)).setCell ⟨g, m * 5 + 2, none⟩ (.int .i64 yt)).setCell ⟨g, m * 5 + 3, none⟩ (.slice (some ⟨b1, 0, none⟩) n n)).setCell ⟨g, m * 5 + 4, none⟩ (.slice (some ⟨pg, 0, none⟩) (n + 1) (n + 1))).cell? ⟨bx, 1, none⟩ = some (.int .i64 yi) ∧ (((((u4.drew.setCell ⟨g, m * 5, none⟩ (.int .i64 yn)).setCell ⟨g, m * 5 + 1, none⟩ (.int .i64 yi)).setCell ⟨g, m * 5 + 2, none⟩ (.int .i64 yt)).setCell ⟨g, m * 5 + 3, none⟩ (.slice (some ⟨b1, 0, none⟩) n n)).setCell ⟨g, m * 5 + 4, none⟩ (.slice (some ⟨pg, 0, none⟩) (n + 1) (n + 1))).cell? ⟨bx, 2, none⟩ = some (.int .i64 yt) ∧ (((((u4.drew.setCell ⟨g, m * 5, none⟩ (.int .i64 yn)).setCell ⟨g, m * 5 + 1, none⟩ (.int .i64 yi)).setCell ⟨g, m * 5 + 2, none⟩ (.int .i64 yt)).setCell ⟨g, m * 5 + 3, none⟩ (.slice (some ⟨b1, 0, none⟩) n n)).setCell ⟨g, m * 5 + 4, none⟩ (.slice (some ⟨pg, 0, none⟩) (n + 1) (n + 1))).cell? ⟨bx, 3, none⟩ = some (.slice (some ⟨b1, 0, none⟩) n n) ∧ (((((u4.drew.setCell ⟨g, m * 5, none⟩ (.int .i64 yn)).setCell ⟨g, m * 5 + 1, none⟩ (.int .i64 yi)).setCell ⟨g, m * 5 + 2, none⟩ (.int .i64 yt)).setCell ⟨g, m * 5 + 3, none⟩ (.slice (some ⟨b1, 0, none⟩) n n)).setCell ⟨g, m * 5 + 4, none⟩ (.slice (some ⟨pg, 0, none⟩) (n + 1) (n + 1))).cell? ⟨bx, 4, none⟩ = some (.slice (some ⟨pg, 0, none⟩) (n + 1) (n + 1))) := ⟨GF.out.1.lg.lg.bx.cellAt (o := 3) rfl, RF.out.cellAt (o := 0) rfl, RF.out.cellAt (o := 1) rfl, RF.out.cellAt (o := 2) rfl, RF.out.cellAt (o := 3) rfl, RF.out.cellAt (o := 4) rfl⟩
            have HGF := hid GF.out.1
            have HFR : Hid (∀ o, u4.drew.frozen? ⟨g, o, none⟩ = false) := fun o => by obtain ⟨cs0, rw0⟩ := S7.out.g.lg.lg.sg.row.block (g := g) rfl; exact rw0.frozen
            have CEL : Hid (∀ o, o < 5 → ∃ u, u4.drew.cell? ⟨g, m * 5 + o, none⟩ = some u) := fun o ho => by
              have h1 := S7.out.g.lg.lg.sg.cellN m (by simp [HM.out]) o
              rcases ho9 : (svC ((l0 ++ [⟨yn, yi, yt, yve, yvp, yes, yps⟩])[m]'(by simp [HM.out])))[o]? with _ | u
              · rw [List.getElem?_eq_none_iff] at ho9; simp [svC, sgC] at ho9; omega
              · have := h1 u ho9; rw [Nat.zero_add] at this; exact ⟨u, this⟩
            obtain ⟨k0, hk0⟩ := CEL.out 0 (by omega)
            obtain ⟨k1, hk1⟩ := CEL.out 1 (by omega)
            obtain ⟨k2, hk2⟩ := CEL.out 2 (by omega)
            obtain ⟨k3, hk3⟩ := CEL.out 3 (by omega)
            obtain ⟨k4, hk4⟩ := CEL.out 4 (by omega)
            rw [Nat.add_zero] at hk0
            have g0 := HFR.out (m * 5)
            have g11 := HFR.out (m * 5 + 1)
            have g22 := HFR.out (m * 5 + 2)
            have g3 := HFR.out (m * 5 + 3)
            have g4 := HFR.out (m * 5 + 4)
            clear GF RF R7 S7 S6 R6 RB LST hLg HFR CEL
            refine wp_region_held_drew (S := fun W => W.cell? ⟨L, 3, none⟩ = some (.slice (some ⟨g, 0, none⟩) N cap) ∧ W.cell? ⟨bx, 0, none⟩ = some (.int .i64 yn) ∧ W.cell? ⟨bx, 1, none⟩ = some (.int .i64 yi) ∧ W.cell? ⟨bx, 2, none⟩ = some (.int .i64 yt) ∧ W.cell? ⟨bx, 3, none⟩ = some (.slice (some ⟨b1, 0, none⟩) n n) ∧ W.cell? ⟨bx, 4, none⟩ = some (.slice (some ⟨pg, 0, none⟩) (n + 1) (n + 1))) (by kernel_rfl) Z5 (fun hHeld => ?_)
            generalize u4.drew = u3 at *
            refine wpAnyH_take (i := 0) (v := ?vv33) rfl (by kernel_rfl) (by kernel_rfl) (by kernel_rfl) (fun _ _ _ h => h) (Or.inl ⟨by rfl, ?hy33⟩) (by assumption) ?rest33
            case hy33 => (intro w hSw; (try dsimp only at hSw); go_simp; first | done | with_reducible rfl)
            try simp only [Act.put, List.getElem_toArray, List.getElem_cons_succ, List.getElem_cons_zero, List.setIfInBounds_toArray, List.set_cons_zero, List.set_cons_succ]
            refine wpAnyH_take (i := 1) (v := ?vv34) rfl (by kernel_rfl) (by kernel_rfl) (by kernel_rfl) (fun _ _ _ h => h) (Or.inl ⟨by rfl, ?hy34⟩) (by assumption) ?rest34
            case hy34 => (intro w hSw; (try dsimp only at hSw); go_simp; first | done | with_reducible rfl)
            try simp only [Act.put, List.getElem_toArray, List.getElem_cons_succ, List.getElem_cons_zero, List.setIfInBounds_toArray, List.set_cons_zero, List.set_cons_succ]
            refine wpAnyH_take (i := 2) (v := ?vv35) rfl (by kernel_rfl) (by kernel_rfl) (by kernel_rfl) (fun _ _ _ h => h) (Or.inl ⟨by rfl, ?hy35⟩) (by assumption) ?rest35
            case hy35 => (intro w hSw; (try dsimp only at hSw); go_simp; first | done | with_reducible rfl)
            try simp only [Act.put, List.getElem_toArray, List.getElem_cons_succ, List.getElem_cons_zero, List.setIfInBounds_toArray, List.set_cons_zero, List.set_cons_succ]
            refine wpAnyH_take (i := 3) (v := ?vv36) rfl (by kernel_rfl) (by kernel_rfl) (by kernel_rfl) (fun _ _ _ h => h) (Or.inl ⟨by rfl, ?hy36⟩) (by assumption) ?rest36
            case hy36 => (intro w hSw; (try dsimp only at hSw); go_simp; first | done | with_reducible rfl)
            try simp only [Act.put, List.getElem_toArray, List.getElem_cons_succ, List.getElem_cons_zero, List.setIfInBounds_toArray, List.set_cons_zero, List.set_cons_succ]
            refine wpAnyH_take (i := 4) (v := ?vv37) rfl (by kernel_rfl) (by kernel_rfl) (by kernel_rfl) (fun _ _ _ h => h) (Or.inl ⟨by rfl, ?hy37⟩) (by assumption) ?rest37
            case hy37 => (intro w hSw; (try dsimp only at hSw); go_simp; first | done | with_reducible rfl)
            try simp only [Act.put, List.getElem_toArray, List.getElem_cons_succ, List.getElem_cons_zero, List.setIfInBounds_toArray, List.set_cons_zero, List.set_cons_succ]
            refine wpAnyH_take (i := 5) (v := ?vv38) rfl (by kernel_rfl) (by kernel_rfl) (by kernel_rfl) (fun _ _ _ h => h) (Or.inl ⟨by rfl, ?hy38⟩) (by assumption) ?rest38
            case hy38 => (intro w hSw; (try dsimp only at hSw); go_simp; first | done | with_reducible rfl)
            try simp only [Act.put, List.getElem_toArray, List.getElem_cons_succ, List.getElem_cons_zero, List.setIfInBounds_toArray, List.set_cons_zero, List.set_cons_succ]
            refine wpAnyH_take (i := 6) (v := ?vv39) rfl (by kernel_rfl) (by kernel_rfl) (by kernel_rfl) (fun _ _ _ h => h) (Or.inl ⟨by rfl, ?hy39⟩) (by assumption) ?rest39
            case hy39 => (intro w hSw; (try dsimp only at hSw); go_simp; first | done | with_reducible rfl)
            try simp only [Act.put, List.getElem_toArray, List.getElem_cons_succ, List.getElem_cons_zero, List.setIfInBounds_toArray, List.set_cons_zero, List.set_cons_succ]
            refine wpAnyH_take (i := 7) (v := ?vv40) rfl (by kernel_rfl) (by kernel_rfl) (by kernel_rfl) (fun _ _ _ h => h) (Or.inl ⟨by rfl, ?hy40⟩) (by assumption) ?rest40
            case hy40 => (intro w hSw; (try dsimp only at hSw); go_simp; first | done | with_reducible rfl)
            try simp only [Act.put, List.getElem_toArray, List.getElem_cons_succ, List.getElem_cons_zero, List.setIfInBounds_toArray, List.set_cons_zero, List.set_cons_succ]
            refine wpAnyH_take (i := 8) (v := ?vv41) rfl (by kernel_rfl) (by kernel_rfl) (by kernel_rfl) (fun _ _ _ h => h) (Or.inl ⟨by rfl, ?hy41⟩) (by assumption) ?rest41
            case hy41 => (intro w hSw; (try dsimp only at hSw); go_simp; first | done | with_reducible rfl)
            try simp only [Act.put, List.getElem_toArray, List.getElem_cons_succ, List.getElem_cons_zero, List.setIfInBounds_toArray, List.set_cons_zero, List.set_cons_succ]
            refine wpAnyH_take (i := 9) (v := ?vv42) rfl (by kernel_rfl) (by kernel_rfl) (by kernel_rfl) (fun _ _ _ h => h) (Or.inl ⟨by rfl, ?hy42⟩) (by assumption) ?rest42
            case hy42 => (intro w hSw; (try dsimp only at hSw); go_simp; first | done | with_reducible rfl)
            try simp only [Act.put, List.getElem_toArray, List.getElem_cons_succ, List.getElem_cons_zero, List.setIfInBounds_toArray, List.set_cons_zero, List.set_cons_succ]
            refine wpAnyH_take (i := 10) (v := ?vv43) rfl (by kernel_rfl) (by kernel_rfl) (by kernel_rfl) (fun _ _ _ h => h) (Or.inl ⟨by rfl, ?hy43⟩) (by assumption) ?rest43
            case hy43 => (intro w hSw; (try dsimp only at hSw); go_simp; first | done | with_reducible rfl)
            try simp only [Act.put, List.getElem_toArray, List.getElem_cons_succ, List.getElem_cons_zero, List.setIfInBounds_toArray, List.set_cons_zero, List.set_cons_succ]
            refine wpAnyH_take (i := 11) (v := ?vv44) rfl (by kernel_rfl) (by kernel_rfl) (by kernel_rfl) (fun _ _ _ h => h) (Or.inl ⟨by rfl, ?hy44⟩) (by assumption) ?rest44
            case hy44 => (intro w hSw; (try dsimp only at hSw); go_simp; first | done | with_reducible rfl)
            try simp only [Act.put, List.getElem_toArray, List.getElem_cons_succ, List.getElem_cons_zero, List.setIfInBounds_toArray, List.set_cons_zero, List.set_cons_succ]
            refine wpAnyH_ready (rs := [12]) (by kernel_rfl) (by simp) ?_
            refine AllReadyH.cons rfl (fun K hK => ?_) AllReadyH.nil
            go_simp
            refine hK.out _ _ Z6 (fun hHeld => ?_)
            clear hK K
            try simp only [Act.put, List.getElem_toArray, List.getElem_cons_succ, List.getElem_cons_zero, List.setIfInBounds_toArray, List.set_cons_zero, List.set_cons_succ]
            refine wpAnyH_done (by kernel_rfl) ?_ _
            go_wp2
            (try simp only [Exit.inBlock, Exit.then])
            go_ret
            rw [HR.out]
            exact ⟨rfl, c2, _, _, HGF.out, by first | (rw [List.map_append, HFS.out]; rfl) | (rw [if_pos rfl, List.map_append, HFS.out]; rfl), SF.out⟩
          · have hne : (er != 0) = true := by simp [her]
            have FIN : Hid (LgE w c p d2 B L tm vt lost (l0.map Sv.sg ++ [Sv.sg ⟨yn, yi, yt, yve, yvp, yes, yps⟩]) u4) := ⟨c2, _, _, S6.out.g, by rw [List.map_append]; rfl, S6.out.s⟩
            clear S6 R6 RB
            go_wp2
            (try simp only [Exit.inBlock, Exit.then])
            go_ret
            rw [HR.out]
            first | exact ⟨rfl, FIN.out⟩ | (rw [if_neg her]; exact ⟨rfl, FIN.out⟩) | (refine ⟨rfl, ?_⟩; show LgE _ _ _ _ _ _ _ _ _ (if er = 0 then _ else _) _; rw [if_neg her]; exact FIN.out)

end Go.Proofs.YtefbioainibmaaaGreatDoor
namespace Go.Proofs.YtefbioainibmaaaGreatDoor
open Go.RowKit Go.Maps
set_option linter.unusedVariables false
set_option linter.unusedSimpArgs false

theorem sub_to {st e size bytes : Nat} (T : ElT st e size bytes) {w : World} {v : Value} {len k : Nat} {cs : List Value} (hr : RowC w v len cs) (hk : k ≤ len) : ∃ ad cap, (RowC w (.slice ad k cap) k (cs.take (k * size)) ∧ ∀ g, (Value.slice ad k cap).ownBlock = some g → 0 < k → v.ownBlock = some g) ∧ ∀ W : World, (Instr.slice st v none (some (.int .i64 (k : Int))) none).run Tryz.prog W = .ok (.slice ad k cap) W := by
  obtain ⟨z, hz, _⟩ := T.inf
  obtain ⟨i0, hi, hi2⟩ := Option.map_eq_some_iff.1 hz
  simp only [Prod.mk.injEq] at hi2
  obtain ⟨_, hi3, _⟩ := hi2
  have e1 : (0 : Int) ≤ (k : Int) := by omega
  rcases hr with ⟨ad, cap, e0, h0, h1⟩ | ⟨b, off, cap, e0, hn, hb, hc⟩
  · subst h0 h1 e0
    have hk0 : k = 0 := by omega
    subst hk0
    refine ⟨if cap = 0 then ad else ad.map (·.add (0 * size)), cap, ⟨.inl ⟨_, _, rfl, rfl, by simp⟩, fun g _ h => by omega⟩, fun W => ?_⟩
    simp [Instr.slice, Instr.sliceBounds, Instr.sliceBound, asIntOf, run_underlying T.und, sizeOf, typeInfo, hi, Result.andThen]
  · subst e0
    have hkc : k ≤ cap := by omega
    have e3 : (⟨b, off, none⟩ : Addr).add 0 = ⟨b, off, none⟩ := rfl
    refine ⟨some ⟨b, off, none⟩, cap, ⟨.inr ⟨b, off, cap, rfl, hkc, hb, fun j u hu => ?_⟩, fun g hg _ => hg⟩, fun W => ?_⟩
    · have hj := (List.getElem?_eq_some_iff.1 hu).1
      rw [List.length_take] at hj
      rw [List.getElem?_take_of_lt (by omega)] at hu
      exact hc j u hu
    · simp [Instr.slice, Instr.sliceBounds, Instr.sliceBound, asIntOf, run_underlying T.und, sizeOf, typeInfo, hi, Result.andThen, e1, hkc, e3]
theorem sub_from {st e size bytes : Nat} (T : ElT st e size bytes) {w : World} {v : Value} {len k : Nat} {cs : List Value} (hr : RowC w v len cs) (hcs : cs.length = len * size) (hk : k ≤ len) : ∃ ad cap, (RowC w (.slice ad (len - k) cap) (len - k) (cs.drop (k * size)) ∧ ∀ g, (Value.slice ad (len - k) cap).ownBlock = some g → 0 < len - k → v.ownBlock = some g) ∧ ∀ W : World, (Instr.slice st v (some (.int .i64 (k : Int))) none none).run Tryz.prog W = .ok (.slice ad (len - k) cap) W := by
  obtain ⟨z, hz, _⟩ := T.inf
  obtain ⟨i0, hi, hi2⟩ := Option.map_eq_some_iff.1 hz
  simp only [Prod.mk.injEq] at hi2
  obtain ⟨_, hi3, _⟩ := hi2
  have e1 : (0 : Int) ≤ (k : Int) := by omega
  rcases hr with ⟨ad, cap, e0, h0, h1⟩ | ⟨b, off, cap, e0, hn, hb, hc⟩
  · subst h0 h1 e0
    have hk0 : k = 0 := by omega
    subst hk0
    refine ⟨if cap = 0 then ad else ad.map (·.add (0 * size)), cap, ⟨.inl ⟨_, _, rfl, rfl, by simp⟩, fun g _ h => by omega⟩, fun W => ?_⟩
    simp [Instr.slice, Instr.sliceBounds, Instr.sliceBound, asIntOf, run_underlying T.und, sizeOf, typeInfo, hi, Result.andThen]
  · subst e0
    by_cases hck : cap = k
    · have hkA : k = len := by omega
      refine ⟨some ⟨b, off, none⟩, cap - k, ⟨.inl ⟨_, _, by rw [hkA, Nat.sub_self], by omega, List.drop_eq_nil_of_le (by rw [hcs, hkA]; exact Nat.le_refl _)⟩, fun g _ h => by omega⟩, fun W => ?_⟩
      simp [Instr.slice, Instr.sliceBounds, Instr.sliceBound, asIntOf, run_underlying T.und, sizeOf, typeInfo, hi, Result.andThen, e1, hk, hck]
    · refine ⟨some ⟨b, off + k * size, none⟩, cap - k, ⟨.inr ⟨b, off + k * size, _, rfl, by omega, hb, fun j u hu => ?_⟩, fun g hg _ => hg⟩, fun W => ?_⟩
      · rw [List.getElem?_drop] at hu
        have := hc _ u hu
        rw [Nat.add_assoc]
        exact this
      · have e3 : (⟨b, off, none⟩ : Addr).add (k * size) = ⟨b, off + k * size, none⟩ := by rw [Addr.add_lit]
        simp [Instr.slice, Instr.sliceBounds, Instr.sliceBound, asIntOf, run_underlying T.und, sizeOf, typeInfo, hi, Result.andThen, e1, hk, hck, hi3, e3]
/-- entries in memory, with room for what is told, and whose they are -/
structure EnS (w : World) (c : Nat → Nat) (v : Value) (q : List En) : Prop where
  row : RowC w v q.length (ensC q)
  col : ∀ b, v.ownBlock = some b → q ≠ [] → c b = 7
theorem EnS.ents {w : World} {c : Nat → Nat} {v : Value} {l : List En} (h : EnS w c v l) : EntI w v l := by
  rcases h.row with ⟨ad, cap, e, h0, h1⟩ | ⟨b, off, cap, e, _, hb, hc⟩
  · have hl : l = [] := List.length_eq_zero_iff.1 h0
    subst hl
    exact .inl ⟨ad, cap, e, rfl⟩
  · refine .inr ⟨b, off, cap, e, hb, fun j hj i hi => ?_⟩
    have h1 := ensC_get l j hj i hi
    have h2 : i < (enC l[j]).length := hi
    rw [List.getElem?_eq_getElem h2] at h1 ⊢
    have := hc _ _ h1
    rw [show off + (j * 3 + i) = off + j * 3 + i by omega] at this
    exact this
theorem EnS.stp {w w' : World} {c c' : Nat → Nat} {v : Value} {q : List En} (h : EnS w c v q) (s : Stp w c w' c') : EnS w' c' v q := by
  rcases h.row with h0 | ⟨b, off, cap, e, hn, hb, hc⟩
  · refine ⟨.inl h0, fun b hb hq => ?_⟩
    obtain ⟨ad, cap, _, h1, _⟩ := h0
    exact absurd (List.length_eq_zero_iff.1 h1) hq
  · by_cases hq : q = []
    · subst hq
      exact ⟨.inr ⟨b, off, cap, e, hn, Nat.lt_of_lt_of_le hb s.kp.size, fun j u hu => by simp [ensC] at hu⟩, fun b hb hq => absurd rfl hq⟩
    · have hcb := h.col b (by rw [e]; rfl) hq
      refine ⟨.inr ⟨b, off, cap, e, hn, Nat.lt_of_lt_of_le hb s.kp.size, fun j u hu => by rw [s.kp.cell hb (by omega)]; exact hc j u hu⟩, fun b' hb' _ => ?_⟩
      rw [e] at hb'
      have : b = b' := by simpa [Value.ownBlock] using hb'
      subst this
      exact (s.co b hb).trans hcb
theorem EnS.keep {w w' : World} {c : Nat → Nat} {v : Value} {q : List En} (h : EnS w c v q) (k : Keep (fun _ => False) w w') : EnS w' c v q := h.stp ⟨fun _ _ => rfl, k.mono (fun _ _ h => h.elim)⟩
theorem ensC_drop : ∀ (l : List En) (n : Nat), (ensC l).drop (n * 3) = ensC (l.drop n)
  | [], n => by simp [ensC]
  | x :: r, 0 => by simp
  | x :: r, n + 1 => by
    show (enC x ++ ensC r).drop ((n + 1) * 3) = ensC (r.drop n)
    rw [List.drop_append, show (n + 1) * 3 - (enC x).length = n * 3 by simp [enC]; omega, ensC_drop r n, List.drop_of_length_le (by simp [enC]; omega), List.nil_append]
theorem EnS.first {w : World} {c : Nat → Nat} {v : Value} {q : List En} (h : EnS w c v q) (k : Nat) (hk : k ≤ q.length) : ∃ ad cap, EnS w c (.slice ad k cap) (q.take k) ∧ ∀ W : World, (Instr.slice 48 v none (some (.int .i64 (k : Int))) none).run Tryz.prog W = .ok (.slice ad k cap) W := by
  obtain ⟨ad, cap, ⟨h1, h2⟩, h3⟩ := sub_to elEn h.row hk
  refine ⟨ad, cap, ⟨?_, fun b hb hq => h.col b (h2 b hb ?_) (fun e => hq (by rw [e]; simp))⟩, h3⟩
  · rw [List.length_take, Nat.min_eq_left hk, ← ensC_take]; exact h1
  · rcases Nat.eq_zero_or_pos k with h0 | h0
    · subst h0; simp at hq
    · exact h0
theorem EnS.rest {w : World} {c : Nat → Nat} {v : Value} {q : List En} (h : EnS w c v q) (k : Nat) (hk : k ≤ q.length) : ∃ ad cap, EnS w c (.slice ad (q.length - k) cap) (q.drop k) ∧ ∀ W : World, (Instr.slice 48 v (some (.int .i64 (k : Int))) none none).run Tryz.prog W = .ok (.slice ad (q.length - k) cap) W := by
  obtain ⟨ad, cap, ⟨h1, h2⟩, h3⟩ := sub_from elEn h.row (ensC_len q) hk
  refine ⟨ad, cap, ⟨?_, fun b hb hq => h.col b (h2 b hb ?_) (fun e => hq (by rw [e]; simp))⟩, h3⟩
  · rw [List.length_drop, ← ensC_drop]; exact h1
  · rcases Nat.eq_zero_or_pos (q.length - k) with h0 | h0
    · exact absurd (List.drop_of_length_le (by omega)) hq
    · exact h0
theorem lastD_of : ∀ (l : List Int) (h : l ≠ []) (d : Int), l.getLastD d = l.getLast h
  | [], h, _ => absurd rfl h
  | a :: r, h, d => by simp [List.getLastD]
/-- bounds of a segment, as plain data -/
structure SgO (y : Sg) : Prop where
  i0 : 0 ≤ y.ix
  i1 : y.ix ≤ 1099511627776
  t0 : 0 ≤ y.tm
  t1 : y.tm ≤ 1099511627776
  es : y.es.length ≤ 8
  ps : y.ps.length = y.es.length + 1
  n0 : 1 ≤ y.n
  n1 : y.n ≤ 4611686018427387903
  ok : ∀ x ∈ y.es, enOk x
  pz : ∀ (i : Nat) (z : Int), y.ps[i]? = some z → 0 ≤ z ∧ z ≤ 1000000000 + (i : Int) * 65580
theorem SgO.sz {y : Sg} (h : SgO y) : 0 ≤ y.sz ∧ y.sz ≤ 1000000000 + y.es.length * 65580 := by
  have hp := h.ps
  have h2 : y.ps[y.es.length]? = some y.ps[y.es.length] := List.getElem?_eq_getElem (by omega)
  have h3 := h.pz _ _ h2
  have h4 : y.sz = y.ps[y.es.length] := by
    have hne : y.ps ≠ [] := fun e => by rw [e] at hp; simp at hp
    have h5 : y.sz = y.ps.getLast hne := by
      exact lastD_of _ hne 0
    rw [h5, List.getLast_eq_getElem]
    congr 1
    omega
  rw [h4]; exact h3
theorem SgO.v {y : Sv} (h : SgO y.sg) : SvO y :=
  ⟨h.i0, (by have : y.ix ≤ 1099511627776 := h.i1; omega), h.t0, h.t1, h.es, h.ps, h.n0, h.n1, h.sz.1, (by have := h.sz.2; have h2 : y.es.length ≤ 8 := h.es; have h3 : y.sg.es.length = y.es.length := rfl; omega), h.ok⟩
theorem psX_bd : ∀ (q : List En) (a : Int), (∀ x ∈ q, enOk x) → ∀ (i : Nat) (z : Int), (psX a q)[i]? = some z → a ≤ z ∧ z ≤ a + ((i : Int) + 1) * 65580
  | [], a, _, i, z, h => by simp [psX] at h
  | x :: r, a, ho, 0, z, h => by
    have hx := enX_len x (ho x (by simp))
    simp [psX] at h
    omega
  | x :: r, a, ho, i + 1, z, h => by
    have hx := enX_len x (ho x (by simp))
    have := psX_bd r (a + (enX x).length) (fun y hy => ho y (by simp [hy])) i z (by simpa [psX] using h)
    omega
theorem fs_ok {y : Sg} (h : SgO y) (n : Nat) (hn : n ≤ y.es.length) : SgO (fsG y n) :=
  ⟨h.i0, h.i1, h.t0, h.t1, by show (y.es.take n).length ≤ 8; rw [List.length_take]; have := h.es; omega, by show (y.ps.take (n + 1)).length = (y.es.take n).length + 1; rw [List.length_take, List.length_take]; have := h.ps; omega, h.n0, h.n1, fun x hx => h.ok x (List.mem_of_mem_take hx), fun i z hz => h.pz i z (by
    have hz : (y.ps.take (n + 1))[i]? = some z := hz
    rw [List.getElem?_take] at hz
    split at hz
    · exact hz
    · cases hz)⟩
theorem txW_app (a b : List En) : txW (a ++ b) = txW a ++ txW b := by simp [txW]
theorem txW_split (q : List En) (k : Nat) : (txW q).length = (txW (q.take k)).length + (txW (q.drop k)).length := by
  rw [← List.length_append, ← txW_app, List.take_append_drop]
/-- the sum of what was told: the size of a segment's file grows by at most what is laid -/
theorem enT_bd {tm : Int} {es : List En} (h : 0 ≤ tm ∧ tm ≤ 1099511627776) (he : ∀ x ∈ es, enOk x) : 0 ≤ enT tm es ∧ enT tm es ≤ 1099511627776 := by
  unfold enT
  rcases hl : es.getLast? with _ | x
  · exact h
  · have := he x (List.mem_of_getLast? hl)
    exact ⟨this.1, this.2.1⟩
theorem wt_ok {y : Sg} {q : List En} (h : SgO y) (hq : y.es.length + q.length ≤ 8) (ho : ∀ x ∈ q, enOk x) : SgO (y.wt q) := by
  refine ⟨h.i0, h.i1, h.t0, h.t1, by show (y.es ++ q).length ≤ 8; rw [List.length_append]; exact hq, by show (y.ps ++ psX _ q).length = (y.es ++ q).length + 1; rw [List.length_append, List.length_append, psX_len]; have := h.ps; omega, h.n0, h.n1, fun x hx => ?_, fun i z hz => ?_⟩
  · rcases List.mem_append.1 hx with hx | hx
    · exact h.ok x hx
    · exact ho x hx
  · have hz : (y.ps ++ psX y.sz q)[i]? = some z := hz
    by_cases hi : i < y.ps.length
    · rw [List.getElem?_append_left hi] at hz
      exact h.pz i z hz
    · rw [List.getElem?_append_right (by omega)] at hz
      have h1 := psX_bd q y.sz ho _ _ hz
      have h2 := h.sz
      have h3 := h.ps
      have h4 : ((i - y.ps.length : Nat) : Int) = (i : Int) - (y.es.length : Int) - 1 := by omega
      omega
theorem bgG_ok {n : Int} {ix tm : Nat} {q : List En} (h1 : 1 ≤ n) (h2 : n ≤ 4611686018427387903) (h3 : ix ≤ 1099511627776) (h4 : tm ≤ 1099511627776) (hq : q.length ≤ 8) (ho : ∀ x ∈ q, enOk x) : SgO (bgG n ix tm q) := by
  have hb := bsB_len ix tm
  refine wt_ok (y := ⟨n, ix, tm, [], [((bsB ix tm).length : Int)]⟩) ⟨by show (0 : Int) ≤ (ix : Int); omega, by show (ix : Int) ≤ _; omega, by show (0 : Int) ≤ (tm : Int); omega, by show (tm : Int) ≤ _; omega, by show 0 ≤ 8; omega, rfl, h1, h2, fun x hx => (by cases hx), fun i z hz => ?_⟩ (by show 0 + q.length ≤ 8; omega) ho
  have hz : [((bsB ix tm).length : Int)][i]? = some z := hz
  rcases i with _ | i
  · simp at hz; omega
  · simp at hz
end Go.Proofs.YtefbioainibmaaaGreatDoor
namespace Go.Proofs.YtefbioainibmaaaGreatDoor
open Go.RowKit Go.Maps
set_option linter.unusedVariables false
set_option linter.unusedSimpArgs false

theorem bgS_ok {d : Ds} {l : List Sg} {ix tm : Nat} {q : List En} (hl : ∀ z ∈ l, SgO z) (htm : tm ≤ 1099511627776) (hq : q.length ≤ 8) (ho : ∀ x ∈ q, enOk x) : (∀ z ∈ (bgS d l ix tm q).2.1, SgO z) ∧ (bgS d l ix tm q).2.1.length ≤ l.length + 1 ∧ l.length ≤ (bgS d l ix tm q).2.1.length := by
  unfold bgS
  split
  · exact ⟨hl, by simp, by simp⟩
  · rename_i hn
    split
    · refine ⟨fun z hz => ?_, by simp, by simp⟩
      rcases List.mem_append.1 hz with hz | hz
      · exact hl z hz
      · rw [List.mem_singleton.1 hz]
        refine bgG_ok ?_ (by omega) (by omega) htm hq ho
        unfold nxN
        rcases hg : l.getLast? with _ | y
        · exact Int.le_refl _
        · have := (hl y (List.mem_of_getLast? hg)).n0
          show 1 ≤ y.n + 1
          omega
    · exact ⟨hl, by simp, by simp⟩
theorem lt_bd {y : Sg} (h : SgO y) : 0 ≤ y.lt ∧ y.lt ≤ 1099511627776 := enT_bd ⟨h.t0, h.t1⟩ h.ok
theorem en_bd {y : Sg} (h : SgO y) : 0 ≤ y.en ∧ y.en ≤ 1099511627784 := by
  have h0 := h.i0
  have h1 := h.i1
  have h2 := h.es
  unfold Sg.en
  omega
theorem lpS_nil (k : Nat) (d : Ds) (l : List Sg) : lpS k d l [] = (d, l, 0) := by
  cases k <;> rfl
theorem lpS_cons {k : Nat} {d : Ds} {l : List Sg} {q : List En} (hq : q.length ≠ 0) {y : Sg} (hy : l.getLast? = some y) (n : Nat) (hn : n = min 8 q.length) : lpS (k + 1) d l q = if (bgS d l y.en.toNat y.lt.toNat (q.take n)).2.2 = 0 then lpS k (bgS d l y.en.toNat y.lt.toNat (q.take n)).1 (bgS d l y.en.toNat y.lt.toNat (q.take n)).2.1 (q.drop n) else bgS d l y.en.toNat y.lt.toNat (q.take n) := by
  have e1 : q.take 8 = q.take n := by
    rcases Nat.le_total 8 q.length with h | h
    · rw [hn, Nat.min_eq_left h]
    · rw [hn, Nat.min_eq_right h, List.take_of_length_le h, List.take_length]
  have e2 : q.drop 8 = q.drop n := by
    rcases Nat.le_total 8 q.length with h | h
    · rw [hn, Nat.min_eq_left h]
    · rw [hn, Nat.min_eq_right h, List.drop_of_length_le h, List.drop_length]
  conv => lhs; unfold lpS
  rw [if_neg hq, hy, e1, e2]
theorem lpS_ok : ∀ (k : Nat) (d : Ds) (l : List Sg) (q : List En) (K M : Nat), (∀ z ∈ l, SgO z) → (∀ x ∈ q, enOk x) → PI d K M → (∀ z ∈ (lpS k d l q).2.1, SgO z) ∧ PI (lpS k d l q).1 (K + q.length) (M + 29 * q.length + (txW q).length) ∧ (lpS k d l q).2.1.length ≤ l.length + q.length ∧ l.length ≤ (lpS k d l q).2.1.length
  | 0, d, l, q, K, M, hl, ho, hp => ⟨hl, hp.mono (by omega) (by omega), by show l.length ≤ _; omega, Nat.le_refl _⟩
  | k + 1, d, l, q, K, M, hl, ho, hp => by
    by_cases hq : q.length = 0
    · have : q = [] := List.length_eq_zero_iff.1 hq
      subst this
      rw [lpS_nil]
      exact ⟨hl, hp.mono (by omega) (by omega), by show l.length ≤ _; omega, Nat.le_refl _⟩
    · rcases hg : l.getLast? with _ | y
      · have e : lpS (k + 1) d l q = (d, l, 0) := by unfold lpS; rw [if_neg hq, hg]
        rw [e]
        exact ⟨hl, hp.mono (by omega) (by omega), by show l.length ≤ _; omega, Nat.le_refl _⟩
      · have hy := hl y (List.mem_of_getLast? hg)
        have hlt := lt_bd hy
        obtain ⟨n, hn⟩ : ∃ n, n = min 8 q.length := ⟨_, rfl⟩
        rw [lpS_cons hq hg n hn]
        have hn1 : 1 ≤ n ∧ n ≤ 8 ∧ n ≤ q.length := by omega
        have hot : ∀ x ∈ q.take n, enOk x := fun x hx => ho x (List.mem_of_mem_take hx)
        have h1 := bgS_ok (d := d) (ix := y.en.toNat) (tm := y.lt.toNat) hl (by omega) (by rw [List.length_take]; omega) hot
        have h2 := bgS_PI hp l y.en.toNat y.lt.toNat (q.take n)
        have hs := txW_split q n
        have hd : (q.drop n).length = q.length - n := List.length_drop
        split
        · have h3 := lpS_ok k _ _ (q.drop n) _ _ h1.1 (fun x hx => ho x (List.mem_of_mem_drop hx)) h2
          refine ⟨h3.1, h3.2.1.mono (by omega) (by omega), by have := h3.2.2; omega, by have := h3.2.2; omega⟩
        · exact ⟨h1.1, h2.mono (by omega) (by omega), by omega, h1.2.2⟩
theorem flS_ok {d : Ds} {l : List Sg} {y : Sg} {q : List En} (hl : ∀ z ∈ l ++ [y], SgO z) (hq : y.es.length + q.length ≤ 8) (ho : ∀ x ∈ q, enOk x) : (∀ z ∈ (flS d l y q).2.1, SgO z) ∧ (flS d l y q).2.1.length = l.length + 1 := by
  unfold flS
  split
  · refine ⟨fun z hz => ?_, by simp⟩
    rcases List.mem_append.1 hz with hz | hz
    · exact hl z (List.mem_append_left _ hz)
    · rw [List.mem_singleton.1 hz]; exact wt_ok (hl y (by simp)) hq ho
  · exact ⟨hl, by simp⟩
theorem lyS_eq {d : Ds} {l : List Sg} {y : Sg} {q : List En} (n : Nat) (hy : y.es.length ≤ 8) (hn : n = min (8 - y.es.length) q.length) : lyS d l y q = if n = 0 then lpS q.length d (l ++ [y]) q
    else if (flS d l y (q.take n)).2.2 = 0 then lpS q.length (flS d l y (q.take n)).1 (flS d l y (q.take n)).2.1 (q.drop n) else flS d l y (q.take n) := by
  unfold lyS
  by_cases h0 : q.length = 0 ∨ 8 ≤ y.es.length
  · have hn0 : n = 0 := by omega
    rw [if_pos h0, if_pos hn0]
  · have hn0 : ¬ n = 0 := by omega
    rw [if_neg h0]
    have e1 : q.take (8 - y.es.length) = q.take n := by
      rcases Nat.le_total (8 - y.es.length) q.length with h | h
      · rw [hn, Nat.min_eq_left h]
      · rw [hn, Nat.min_eq_right h, List.take_of_length_le h, List.take_length]
    have e2 : q.drop (8 - y.es.length) = q.drop n := by
      rcases Nat.le_total (8 - y.es.length) q.length with h | h
      · rw [hn, Nat.min_eq_left h]
      · rw [hn, Nat.min_eq_right h, List.drop_of_length_le h, List.drop_length]
    rw [e1, e2, if_neg hn0]
theorem lyS_ok {d : Ds} {l : List Sg} {y : Sg} {q : List En} {K M : Nat} (hl : ∀ z ∈ l ++ [y], SgO z) (ho : ∀ x ∈ q, enOk x) (hp : PI d K M) : (∀ z ∈ (lyS d l y q).2.1, SgO z) ∧ PI (lyS d l y q).1 (K + q.length + 1) (M + 29 * q.length + (txW q).length + 1) ∧ (lyS d l y q).2.1.length ≤ l.length + 1 + q.length ∧ l.length + 1 ≤ (lyS d l y q).2.1.length := by
  have hy := hl y (by simp)
  obtain ⟨n, hn⟩ : ∃ n, n = min (8 - y.es.length) q.length := ⟨_, rfl⟩
  rw [lyS_eq n hy.es hn]
  have hes := hy.es
  by_cases h0 : n = 0
  · rw [if_pos h0]
    have := lpS_ok q.length d (l ++ [y]) q K M hl ho hp
    simp only [List.length_append, List.length_singleton] at this
    exact ⟨this.1, this.2.1.mono (by omega) (by omega), by omega, by omega⟩
  · rw [if_neg h0]
    have hot : ∀ x ∈ q.take n, enOk x := fun x hx => ho x (List.mem_of_mem_take hx)
    have h1 := flS_ok (d := d) hl (q := q.take n) (by rw [List.length_take]; omega) hot
    have h2 : PI (flS d l y (q.take n)).1 (K + 1) (M + ((txW (q.take n)).length + 1)) := hp.app _ _
    have hs := txW_split q n
    have hd : (q.drop n).length = q.length - n := List.length_drop
    split
    · have h3 := lpS_ok q.length _ _ (q.drop n) _ _ h1.1 (fun x hx => ho x (List.mem_of_mem_drop hx)) h2
      exact ⟨h3.1, h3.2.1.mono (by omega) (by omega), by have := h3.2.2; omega, by have := h3.2.2; omega⟩
    · exact ⟨h1.1, h2.mono (by omega) (by omega), by omega, by omega⟩
theorem ctS_ok {d : Ds} {l : List Sg} {y : Sg} {a : Int} (hl : ∀ z ∈ l ++ [y], SgO z) : (∀ z ∈ (ctS d l y a).2.1, SgO z) ∧ (ctS d l y a).2.1.length = l.length + 1 := by
  unfold ctS
  split
  · exact ⟨hl, by simp⟩
  · rename_i hn
    simp only
    split
    · refine ⟨fun z hz => ?_, by simp⟩
      rcases List.mem_append.1 hz with hz | hz
      · exact hl z (List.mem_append_left _ hz)
      · rw [List.mem_singleton.1 hz]; exact fs_ok (hl y (by simp)) _ (by omega)
    · exact ⟨hl, by simp⟩
theorem ctS_PI {d : Ds} {l : List Sg} {y : Sg} {a : Int} {K M : Nat} (hp : PI d K M) : PI (ctS d l y a).1 (K + 1) (M + 1) := by
  unfold ctS
  split
  · exact hp.mono (by omega) (by omega)
  · exact hp.cu _ _
theorem eaS_ok (a : Int) (y0 : Sg) (h0 : SgO y0) : ∀ (k : Nat) (d : Ds) (r : List Sg) (K M : Nat), (∀ z ∈ r, SgO z) → PI d K M → (∀ z ∈ (eaS a y0 k d r).2.1, SgO z) ∧ PI (eaS a y0 k d r).1 (K + r.length + 1) (M + r.length + 1) ∧ 1 ≤ (eaS a y0 k d r).2.1.length ∧ (eaS a y0 k d r).2.1.length ≤ r.length + 1
  | 0, d, r, K, M, hr, hp => ⟨fun z hz => by
      rcases List.mem_cons.1 hz with rfl | hz
      · exact h0
      · exact hr z hz, hp.mono (by omega) (by omega), by show 1 ≤ (y0 :: r).length; simp, by show (y0 :: r).length ≤ _; simp⟩
  | k + 1, d, r, K, M, hr, hp => by
    rcases List.eq_nil_or_concat r with rfl | ⟨r1, y, rfl⟩
    · have := ctS_ok (d := d) (l := []) (y := y0) (a := a) (fun z hz => by simp at hz; rw [hz]; exact h0)
      have e : eaS a y0 (k + 1) d [] = ctS d [] y0 a := rfl
      rw [e]
      exact ⟨this.1, (ctS_PI hp).mono (by simp) (by simp), by rw [this.2]; simp, by rw [this.2]; simp⟩
    · rw [List.concat_eq_append] at hr ⊢
      by_cases h : a - 1 ≤ y.ix
      · rw [eaS_rm h]
        split
        · have := eaS_ok a y0 h0 k _ r1 _ _ (fun z hz => hr z (by simp [hz])) (hp.rm (fnB y.n))
          exact ⟨this.1, this.2.1.mono (by simp; omega) (by simp; omega), this.2.2.1, by have := this.2.2.2; simp; omega⟩
        · refine ⟨fun z hz => ?_, (hp.rm (fnB y.n)).mono (by omega) (by omega), by simp, by simp⟩
          rcases List.mem_cons.1 hz with rfl | hz
          · exact h0
          · exact hr z hz
      · rw [eaS_last h]
        have := ctS_ok (d := d) (l := y0 :: r1) (y := y) (a := a) (fun z hz => by
          rcases List.mem_append.1 hz with hz | hz
          · rcases List.mem_cons.1 hz with rfl | hz
            · exact h0
            · exact hr z (by simp [hz])
          · exact hr z (by simp at hz; simp [hz]))
        exact ⟨this.1, (ctS_PI hp).mono (by omega) (by omega), by rw [this.2]; simp, by rw [this.2]; simp⟩
end Go.Proofs.YtefbioainibmaaaGreatDoor
namespace Go.Proofs.YtefbioainibmaaaGreatDoor
open Go.RowKit Go.Maps
set_option linter.unusedVariables false
set_option linter.unusedSimpArgs false

/-- the log's base stays -/
def HdI (x t : Int) (l : List Sg) : Prop := ∃ z r, l = z :: r ∧ z.ix = x ∧ z.tm = t
theorem HdI.ne {x t : Int} {l : List Sg} (h : HdI x t l) : l ≠ [] := by
  obtain ⟨z, r, rfl, _⟩ := h
  simp
theorem HdI.snoc {x t : Int} {l : List Sg} {y y' : Sg} (h : HdI x t (l ++ [y])) (e : y'.ix = y.ix) (e2 : y'.tm = y.tm) : HdI x t (l ++ [y']) := by
  obtain ⟨z, r, hz, hx, ht⟩ := h
  cases l with
  | nil =>
    simp only [List.nil_append, List.cons.injEq] at hz
    obtain ⟨rfl, -⟩ := hz
    exact ⟨y', [], rfl, e.trans hx, e2.trans ht⟩
  | cons a m =>
    simp only [List.cons_append, List.cons.injEq] at hz
    obtain ⟨rfl, -⟩ := hz
    exact ⟨a, m ++ [y'], rfl, hx, ht⟩
theorem HdI.app {x t : Int} {l m : List Sg} (h : HdI x t l) : HdI x t (l ++ m) := by
  obtain ⟨z, r, rfl, hx⟩ := h
  exact ⟨z, r ++ m, rfl, hx⟩
theorem bgS_hd {x t : Int} {d : Ds} {l : List Sg} {ix tm : Nat} {q : List En} (h : HdI x t l) : HdI x t (bgS d l ix tm q).2.1 := by
  unfold bgS
  split
  · exact h
  · show HdI x t (if _ then _ else _)
    split
    · exact h.app
    · exact h
theorem flS_hd {x t : Int} {d : Ds} {l : List Sg} {y : Sg} {q : List En} (h : HdI x t (l ++ [y])) : HdI x t (flS d l y q).2.1 := by
  unfold flS
  show HdI x t (if _ then _ else _)
  split
  · exact h.snoc rfl rfl
  · exact h
theorem lpS_hd {x t : Int} : ∀ (k : Nat) (d : Ds) (l : List Sg) (q : List En), HdI x t l → HdI x t (lpS k d l q).2.1
  | 0, d, l, q, h => h
  | k + 1, d, l, q, h => by
    unfold lpS
    split
    · exact h
    · rcases hg : l.getLast? with _ | y
      · exact h
      · show HdI x t (if _ then _ else _ : Ds × List Sg × Int).2.1
        split
        · exact lpS_hd k _ _ _ (bgS_hd h)
        · exact bgS_hd h
theorem lyS_hd {x t : Int} {d : Ds} {l : List Sg} {y : Sg} {q : List En} (h : HdI x t (l ++ [y])) : HdI x t (lyS d l y q).2.1 := by
  unfold lyS
  split
  · exact lpS_hd _ _ _ _ h
  · split
    · exact lpS_hd _ _ _ _ (flS_hd h)
    · exact flS_hd h
theorem ctS_hd {x t : Int} {d : Ds} {l : List Sg} {y : Sg} {a : Int} (h : HdI x t (l ++ [y])) : HdI x t (ctS d l y a).2.1 := by
  unfold ctS
  split
  · exact h
  · show HdI x t (if _ then _ else _)
    split
    · exact h.snoc rfl rfl
    · exact h
theorem eaS_hd {x t : Int} {a : Int} {y0 : Sg} (e : y0.ix = x) (e2 : y0.tm = t) : ∀ (k : Nat) (d : Ds) (r : List Sg), HdI x t (eaS a y0 k d r).2.1
  | 0, d, r => ⟨y0, r, rfl, e, e2⟩
  | k + 1, d, r => by
    rcases List.eq_nil_or_concat r with rfl | ⟨r1, y, rfl⟩
    · exact ctS_hd (l := []) ⟨y0, [], rfl, e, e2⟩
    · rw [List.concat_eq_append]
      by_cases h : a - 1 ≤ y.ix
      · rw [eaS_rm h]
        split
        · exact eaS_hd e e2 k _ r1
        · exact ⟨y0, _, rfl, e, e2⟩
      · rw [eaS_last h]
        exact ctS_hd ⟨y0, r1 ++ [y], rfl, e, e2⟩
/-- the log ends ahead of an index -/
def eaL (a : Int) (d : Ds) (l : List Sg) : Ds × List Sg × Int := match l with
  | [] => (d, l, 0)
  | y0 :: r => eaS a y0 (r.length + 1) d r
/-- entries behind the log -/
def lyL (d : Ds) (l : List Sg) (q : List En) : Ds × List Sg × Int := match l.getLast? with
  | none => (d, l, 0)
  | some y => lyS d l.dropLast y q
/-- synced, with what was to be said -/
def snP (P : Ds × List Sg × Int) (e : Int) : Ds × List Sg × Int := ((synR P.1).1, P.2.1, if (synR P.1).2 = 0 then e else (synR P.1).2)
/-- behind laying: if there was no room, what was laid is taken away -/
def rp2 (a : Int) (P : Ds × List Sg × Int) : Ds × List Sg × Int :=
  if P.2.2 = 22 then (if (eaL a P.1 P.2.1).2.2 = 0 then snP (eaL a P.1 P.2.1) 22 else eaL a P.1 P.2.1)
  else if P.2.2 = 0 then snP P 0 else P
/-- entries in the place of all that stands behind an index -/
def rpS (a : Int) (d : Ds) (l : List Sg) (q : List En) : Ds × List Sg × Int :=
  if (eaL a d l).2.2 = 0 then rp2 a (lyL (eaL a d l).1 (eaL a d l).2.1 q) else eaL a d l
theorem eaL_ok {a x t : Int} {d : Ds} {l : List Sg} {K M : Nat} (h : HdI x t l) (hs : ∀ z ∈ l, SgO z) (hp : PI d K M) : (∀ z ∈ (eaL a d l).2.1, SgO z) ∧ HdI x t (eaL a d l).2.1 ∧ PI (eaL a d l).1 (K + l.length) (M + l.length) ∧ (eaL a d l).2.1.length ≤ l.length := by
  obtain ⟨z, r, rfl, hx, ht⟩ := h
  have h1 := eaS_ok a z (hs z (by simp)) (r.length + 1) d r K M (fun y hy => hs y (by simp [hy])) hp
  exact ⟨h1.1, eaS_hd hx ht _ _ _, h1.2.1, h1.2.2.2⟩
theorem lyL_ok {x t : Int} {d : Ds} {l : List Sg} {q : List En} {K M : Nat} (h : HdI x t l) (hs : ∀ z ∈ l, SgO z) (ho : ∀ x ∈ q, enOk x) (hp : PI d K M) : (∀ z ∈ (lyL d l q).2.1, SgO z) ∧ HdI x t (lyL d l q).2.1 ∧ PI (lyL d l q).1 (K + q.length + 1) (M + 29 * q.length + (txW q).length + 1) ∧ (lyL d l q).2.1.length ≤ l.length + q.length := by
  rcases List.eq_nil_or_concat l with rfl | ⟨r, y, rfl⟩
  · exact absurd rfl h.ne
  · rw [List.concat_eq_append] at *
    have e : lyL d (r ++ [y]) q = lyS d r y q := by unfold lyL; simp
    rw [e]
    have h1 := lyS_ok (q := q) hs ho hp
    exact ⟨h1.1, lyS_hd h, h1.2.1, by have := h1.2.2.1; simp; omega⟩
end Go.Proofs.YtefbioainibmaaaGreatDoor
