/- Joined: Entries laid behind a log. Entries in the place of all that stands behind an index. Append. SetHard of any term and vote, at any log. First segments taken away: as plain data, and the row that is left in memory. The first segments taken away. Reset. The segment that holds an index. Compact. Entry of an index that the log has. The law's own small run: it answers true. The law's walk: a nil log, no disk, one that is down. -/
import Derived.Test.YtefbioainibmaaaGreatDoorJoined27
import Derived.Deep.LoopGhost
import Derived.Test.YtefbioainibmaaaGreatDoorJoined22
import Derived.Test.YtefbioainibmaaaGreatDoorLaid
import Derived.Shelf.SlSorted.Search
import Derived.BigQuiet
import Derived.Test.YtefbioainibmaaaGreatDoorJoined11
namespace Go.Proofs.YtefbioainibmaaaGreatDoor
open Go.RowKit Go.Maps
set_option linter.unusedVariables false
set_option linter.unusedSimpArgs false

theorem snoc_of {α : Type} {l : List α} (h : l ≠ []) : ∃ l0 y, l = l0 ++ [y] := by
  rcases List.eq_nil_or_concat l with rfl | ⟨l0, y, rfl⟩
  · exact absurd rfl h
  · exact ⟨l0, y, by simp⟩
/-- what the loop over new segments keeps -/
def LyR (w : World) (c : Nat → Nat) (p B L : Nat) (tm vt : Int) (lost : Bool) (KT MT LT : Nat) (P : Ds × List Sg × Int) (gk : Nat) (t1 : Value) (wr : World) : Prop :=
  ∃ (fu : Nat) (ls : List Sg) (dk : Ds) (q : List En) (ad : Option Addr) (cap : Nat) (Kk Mk : Nat), t1 = .slice ad q.length cap ∧ q.length ≤ gk ∧ q.length ≤ fu ∧ P = lpS fu dk ls q ∧ ls ≠ [] ∧ (∀ z ∈ ls, SgO z) ∧ PI dk Kk Mk ∧ Kk + q.length ≤ KT ∧ Mk + 29 * q.length + (txW q).length ≤ MT ∧ ls.length + q.length ≤ LT ∧ (∀ x ∈ q, enOk x) ∧ ∃ ck vk lk, LgD wr ck p dk B L tm vt lost vk lk ∧ lk.map Sv.sg = ls ∧ Stp w c wr ck ∧ EnS wr ck (.slice ad q.length cap) q
set_option maxRecDepth 100000 in
set_option maxHeartbeats 8000000 in
theorem lay_wal {w : World} {c : Nat → Nat} {B L p : Nat} {d : Ds} {tm vt : Int} {lost : Bool} {v : Value} {l1 : List Sv} {yv : Sv} (h : LgD w c p d B L tm vt lost v (l1 ++ [yv])) (hso : ∀ z ∈ l1 ++ [yv], SgO z.sg) (qv : Value) (q : List En) (hq : EnS w c qv q) (hok : ∀ x ∈ q, enOk x) (hl : l1.length + 1 + q.length ≤ 900000) {K M : Nat} (hPI : PI d K M) (hK : K + q.length + 1 ≤ 1000000000000) (hM : M + 29 * q.length + (txW q).length + 1 ≤ 70000000000) :
    Calls Tryz.prog 114 #[.pointer (some ⟨L, 0, none⟩), qv] w fun e w' => e = .returned (.int .i64 (lyS d (l1.map Sv.sg) yv.sg q).2.2) ∧ LgE w c p (lyS d (l1.map Sv.sg) yv.sg q).1 B L tm vt lost (lyS d (l1.map Sv.sg) yv.sg q).2.1 w' := by
  obtain ⟨aq, cq, rfl, -⟩ := hq.ents.form
  have hyo := hso yv (by simp)
  have hye : yv.es.length ≤ 8 := hyo.es
  obtain ⟨n, hn⟩ : ∃ n, n = min (8 - yv.sg.es.length) q.length := ⟨_, rfl⟩
  have HLY := hid (lyS_eq (d := d) (l := l1.map Sv.sg) n hyo.es hn)
  have hn' : n = min (8 - yv.es.length) q.length := hn
  obtain ⟨P, hP⟩ : ∃ P, lyS d (l1.map Sv.sg) yv.sg q = P := ⟨_, rfl⟩
  rw [hP]
  rw [hP] at HLY
  obtain ⟨KT, hKT⟩ : ∃ KT, K + q.length + 1 = KT := ⟨_, rfl⟩
  obtain ⟨MT, hMT⟩ : ∃ MT, M + 29 * q.length + (txW q).length + 1 = MT := ⟨_, rfl⟩
  have HKM : Hid (KT ≤ 1000000000000 ∧ MT ≤ 70000000000) := ⟨by omega, by omega⟩
  obtain ⟨m, hm⟩ : ∃ m, l1.length = m := ⟨_, rfl⟩
  have LA0 := hid (wlast_any h.lg.lg m (by simp [hm]) (by simp; omega) yv (by simp [← hm]))
  have hnl : n ≤ q.length ∧ n ≤ 8 ∧ yv.es.length + n ≤ 8 := by omega
  obtain ⟨adf, capf, FE, FRUN⟩ := hq.first n hnl.1
  obtain ⟨adr, capr, RE, RRUN⟩ := hq.rest n hnl.1
  have hsp := txW_split q n
  have hdl : (q.drop n).length = q.length - n := List.length_drop
  have hhl : (q.take n).length = n := by rw [List.length_take]; omega
  have hotn : ∀ x ∈ q.take n, enOk x := fun x hx => hok x (List.mem_of_mem_take hx)
  have FL : Hid (∀ W, Keep (fun _ => False) w W → Calls Tryz.prog 151 #[.pointer (some ⟨L, 0, none⟩), .slice adf n capf] W fun e w' => e = .returned (.int .i64 (flS d (l1.map Sv.sg) yv.sg (q.take n)).2.2) ∧ LgE W c p (flS d (l1.map Sv.sg) yv.sg (q.take n)).1 B L tm vt lost (flS d (l1.map Sv.sg) yv.sg (q.take n)).2.1 w') := fun W k => by
    have h1 := hPI.m
    have h2 := hPI.n
    exact fill_any (h.keep1 k) (.slice adf n capf) (q.take n) (FE.keep k).ents (FE.keep k).col hotn (by omega) hyo.v (by omega) (by omega) (by omega)
  -- the loop's start: nothing was laid yet
  have SL1 : Hid (∀ W, Keep (fun _ => False) w W → n = 0 → LyR w c p B L tm vt lost KT MT 900000 (lpS q.length d (l1.map Sv.sg ++ [yv.sg]) q) (q.length - n) (.slice aq q.length cq) W) := fun W k h0 => by
    subst h0
    refine ⟨q.length, l1.map Sv.sg ++ [yv.sg], d, q, aq, cq, K, M, rfl, Nat.le_refl _, Nat.le_refl _, rfl, by simp, fun z hz => ?_, hPI, by omega, by omega, by simp; omega, hok, c, v, l1 ++ [yv], h.keep1 k, by simp, ⟨fun _ _ => rfl, k.mono (fun _ _ h => h.elim)⟩, hq.keep k⟩
    rcases List.mem_append.1 hz with hz | hz
    · obtain ⟨z0, hz0, rfl⟩ := List.mem_map.1 hz
      exact hso z0 (List.mem_append_left _ hz0)
    · rw [List.mem_singleton.1 hz]; exact hyo
  have hflo := flS_ok (d := d) (l := l1.map Sv.sg) (y := yv.sg) (q := q.take n) (fun z hz => by
    rcases List.mem_append.1 hz with hz | hz
    · obtain ⟨z0, hz0, rfl⟩ := List.mem_map.1 hz
      exact hso z0 (List.mem_append_left _ hz0)
    · rw [List.mem_singleton.1 hz]; exact hyo) (by rw [hhl]; exact hnl.2.2) hotn
  have hflp : PI (flS d (l1.map Sv.sg) yv.sg (q.take n)).1 (K + 1) (M + ((txW (q.take n)).length + 1)) := hPI.app _ _
  -- .. or the last segment was filled
  have SL2 : Hid (∀ W0 W, Keep (fun _ => False) w W0 → LgE W0 c p (flS d (l1.map Sv.sg) yv.sg (q.take n)).1 B L tm vt lost (flS d (l1.map Sv.sg) yv.sg (q.take n)).2.1 W → LyR w c p B L tm vt lost KT MT 900000 (lpS q.length (flS d (l1.map Sv.sg) yv.sg (q.take n)).1 (flS d (l1.map Sv.sg) yv.sg (q.take n)).2.1 (q.drop n)) (q.length - n) (.slice adr (q.length - n) capr) W) := fun W0 W k hE => by
    obtain ⟨c2, v2, l2, e1, e2, e3⟩ := hE
    have hll := hflo.2
    rw [List.length_map] at hll
    refine ⟨q.length, _, _, q.drop n, adr, capr, _, _, by rw [hdl], by rw [hdl]; exact Nat.le_refl _, by rw [hdl]; omega, rfl, fun e => by rw [e] at hll; simp at hll, hflo.1, hflp, by rw [hdl]; omega, by rw [hdl]; omega, by rw [hdl, hll]; omega, fun x hx => hok x (List.mem_of_mem_drop hx), c2, v2, l2, e1, e2, Stp.trans ⟨fun _ _ => rfl, k.mono (fun _ _ h => h.elim)⟩ e3, ?_⟩
    rw [hdl]; exact (RE.keep k).stp e3
  have hmn : (if (q.length : Int) < 8 - (yv.es.length : Int) then (q.length : Int) else 8 - (yv.es.length : Int)) = (n : Int) := by split <;> omega
  have hmn2 : min (8 - (yv.es.length : Int)) (q.length : Int) = (n : Int) := by omega
  have hw8 : wrap64 (8 - (yv.es.length : Int)) = 8 - (yv.es.length : Int) := IntWalk.wrap64_in _ (by omega)
  have hw9 : IntKind.i64.wrap (8 - (yv.es.length : Int)) = 8 - (yv.es.length : Int) := by rw [IntKind.wrap_i64]; omega
  obtain ⟨yea, yec, hyve⟩ := (h.lg.lg.sg.sg yv (by simp)).oe.form
  have hfd3 : ∀ W : World, (Instr.field 126 (.agg #[.int .i64 yv.n, .int .i64 yv.ix, .int .i64 yv.tm, yv.ve, yv.vp]) 3).run Tryz.prog W = .ok (.slice yea yv.es.length yec) W := fun _ => by rw [hyve]; kernel_rfl
  have HNL := hid hnl
  unfold sgV at LA0
  clear h hso hok hl hPI hK hM hP hKT hMT hm FE RE hsp hdl hhl hotn hflo hflp hyve hyo hye hn hn' hq hnl
  generalize flS d (l1.map Sv.sg) yv.sg (q.take n) = A at *
  obtain ⟨d2, ls2, er⟩ := A
  generalize lpS q.length d (l1.map Sv.sg ++ [yv.sg]) q = P1 at *
  generalize lpS q.length d2 ls2 (q.drop n) = P2 at *
  simp only at *
  go_enter Tryz.func114, Tryz.ntmps114
  go_wp2_with fail
  refine LA0.out.mono ?_
  rintro e w1 ⟨rfl, b1⟩
  have K1 : Hid (Keep (fun _ => False) w w1) := b1.keep _
  clear LA0 b1
  by_cases h0 : n = 0
  · have g1 : decide ((n : Int) > 0) = false := decide_eq_false (by omega)
    have g2 : decide (n > 0) = false := decide_eq_false (by omega)
    obtain rfl : P = P1 := HLY.out.trans (if_pos h0)
    have SL := hid (SL1.out w1 K1.out h0)
    clear HLY FL SL1 SL2 K1 FRUN
    go_wp2_with fail
    go_loopg [1] (q.length - n) (fun gk t1 wr => Hid (LyR w c p B L tm vt lost KT MT 900000 P gk t1 wr))
    case atStart => exact SL
    case round =>
      clear SL
      obtain ⟨fu, ls, dk, q', ad, cap, Kk, Mk, rfl, hgk, hfu, hpe, hne, hso, hpi, hkk, hmk, hll, hok, ck, vk, lk, hG, hlm, hS, hE⟩ := hrel.out
      have HGK := hid hgk
      have HSO := hid hso
      have HOK := hid hok
      have HPI := hid hpi
      have HB := hid (And.intro hkk (And.intro hmk hll))
      have GX := hid hG
      have SX := hid hS
      have EX := hid hE
      have HLM := hid hlm
      have HPE := hid hpe
      have HFU := hid hfu
      clear hrel hgk hso hok hpi hkk hmk hll hG hS hE hpe hfu
      by_cases hz : q'.length = 0
      · have d1 : decide ((q'.length : Int) > 0) = false := decide_eq_false (by omega)
        have d2 : decide (q'.length > 0) = false := decide_eq_false (by omega)
        have hq0 : q' = [] := List.length_eq_zero_iff.1 hz
        obtain rfl : P = (dk, ls, 0) := by rw [HPE.out, hq0, lpS_nil]
        have FIN : Hid (LgE w c p dk B L tm vt lost ls wr) := ⟨ck, vk, lk, GX.out, HLM.out, SX.out⟩
        clear HPE HFU GX SX EX hz hq0
        go_wp2
        (try simp only [Exit.inBlock, Exit.then])
        go_ret
        exact ⟨rfl, FIN.out⟩
      have d1 : decide ((q'.length : Int) > 0) = true := decide_eq_true (by omega)
      have d2 : decide (q'.length > 0) = true := decide_eq_true (by omega)
      have hlsne := hne
      obtain ⟨lk0, yk, hlk⟩ := snoc_of (l := lk) (fun e => by rw [e] at hlm; exact hne hlm.symm)
      subst hlk
      have hyk : SgO yk.sg := HSO.out yk.sg (by rw [← hlm]; simp)
      have hgl : ls.getLast? = some yk.sg := by rw [← hlm]; simp
      obtain ⟨n1, hn1⟩ : ∃ n1, n1 = min 8 q'.length := ⟨_, rfl⟩
      obtain ⟨fu1, hfu1⟩ : ∃ f, fu = f + 1 := ⟨fu - 1, by have := HFU.out; omega⟩
      have HFU1 := hid hfu1
      have HPE2 : Hid (P = if (bgS dk ls yk.sg.en.toNat yk.sg.lt.toNat (q'.take n1)).2.2 = 0 then lpS fu1 (bgS dk ls yk.sg.en.toNat yk.sg.lt.toNat (q'.take n1)).1 (bgS dk ls yk.sg.en.toNat yk.sg.lt.toNat (q'.take n1)).2.1 (q'.drop n1) else bgS dk ls yk.sg.en.toNat yk.sg.lt.toNat (q'.take n1)) := by
        show _ = _
        rw [HPE.out, hfu1]
        exact lpS_cons hz hgl n1 hn1
      have hn2 : 1 ≤ n1 ∧ n1 ≤ 8 ∧ n1 ≤ q'.length := by omega
      have hen := en_bd hyk
      have hlt := lt_bd hyk
      obtain ⟨adf, capf, FE, FRUN⟩ := EX.out.first n1 hn2.2.2
      obtain ⟨adr, capr, RE, RRUN⟩ := EX.out.rest n1 hn2.2.2
      have FEH := hid FE
      have REH := hid RE
      obtain ⟨m, hm⟩ : ∃ m, lk0.length = m := ⟨_, rfl⟩
      have hlkl : (lk0 ++ [yk]).length = ls.length := by rw [← hlm, List.length_map]
      have LA := hid (wlast_any GX.out.lg.lg m (by simp [hm]) (by have := HB.out.2.2; omega) yk (by simp [← hm]))
      have EN : Hid (∀ W, Below wr.heap.size wr W → Calls Tryz.prog 64 #[.agg #[.int .i64 yk.n, .int .i64 yk.ix, .int .i64 yk.tm, yk.ve, yk.vp]] W fun e w' => e = .returned (.tuple #[.int .i64 (yk.sg.en.toNat : Int), .int .i64 (yk.sg.lt.toNat : Int)]) ∧ Below W.heap.size W w') := fun W b => by
        rw [Int.toNat_of_nonneg hen.1, Int.toNat_of_nonneg hlt.1]
        exact sgend_any yk.n yk.ix yk.tm yk.ve yk.vp yk.es W ((GX.out.lg.lg.sg.sg yk (by simp)).oe.ents.next b) hyk.i0 (by have : yk.ix ≤ 1099511627776 := hyk.i1; omega) (by have : yk.es.length ≤ 8 := hyk.es; omega)
      have hol : ∀ x ∈ q'.take n1, enOk x := fun x hx => HOK.out x (List.mem_of_mem_take hx)
      have hln : (q'.take n1).length = n1 := by rw [List.length_take]; omega
      have BG : Hid (∀ W, Keep (fun _ => False) wr W → Calls Tryz.prog 124 #[.pointer (some ⟨L, 0, none⟩), .int .i64 (yk.sg.en.toNat : Int), .int .i64 (yk.sg.lt.toNat : Int), .slice adf n1 capf] W fun e w' => e = .returned (.int .i64 (bgS dk ls yk.sg.en.toNat yk.sg.lt.toNat (q'.take n1)).2.2) ∧ LgE W ck p (bgS dk ls yk.sg.en.toNat yk.sg.lt.toNat (q'.take n1)).1 B L tm vt lost (bgS dk ls yk.sg.en.toNat yk.sg.lt.toNat (q'.take n1)).2.1 w') := fun W k => by
        rw [← HLM.out]
        have hm2 := HPI.out.m
        have hn3 := HPI.out.n
        have hkm := HKM.out
        exact begin_any (GX.out.keep1 k) yk.sg.en.toNat yk.sg.lt.toNat (by omega) (by omega) (.slice adf n1 capf) (q'.take n1) (FEH.out.keep k).ents (FEH.out.keep k).col hol (by omega) (fun z hz => by have := HSO.out z.sg (by rw [← HLM.out]; exact List.mem_map_of_mem hz); exact ⟨this.n0, this.n1⟩) (by have := HB.out.2.2; omega) (by have := HB.out.2.1; omega) (by have := HB.out.1; omega)
      have HOK2 := bgS_ok (d := dk) (ix := yk.sg.en.toNat) (tm := yk.sg.lt.toNat) HSO.out (by omega) (by omega) hol
      have HPI2 := bgS_PI HPI.out ls yk.sg.en.toNat yk.sg.lt.toNat (q'.take n1)
      have hsp := txW_split q' n1
      have hdl : (q'.drop n1).length = q'.length - n1 := List.length_drop
      have HN := hid (And.intro HOK2 (And.intro HPI2 (And.intro hsp (And.intro hdl hn2))))
      have hmn : (if (q'.length : Int) < 8 then (q'.length : Int) else 8) = (n1 : Int) := by split <;> omega
      have hmn3 : min 8 q'.length = n1 := hn1.symm
      have hmn2 : min (8 : Int) (q'.length : Int) = (n1 : Int) := by omega
      clear hyk hgl HPE hfu1 hen hlt FE RE hlkl hol hln hn1 HOK2 HPI2 hsp hdl hlm hm hn2 hz
      unfold sgV at LA
      generalize yk.sg.en.toNat = enn at *
      generalize yk.sg.lt.toNat = ltn at *
      generalize hA : bgS dk ls enn ltn (q'.take n1) = A at *
      obtain ⟨d9, ls9, er9⟩ := A
      simp only at *
      clear hA
      go_wp2_with fail
      refine LA.out.mono ?_
      rintro e w3 ⟨rfl, b3⟩
      have HB3 := hid b3
      clear LA b3
      go_wp2_with fail
      refine (EN.out _ HB3.out).mono ?_
      rintro e w4 ⟨rfl, b4⟩
      have K4 : Hid (Keep (fun _ => False) wr w4) := (HB3.out.keep _).trans (b4.keep _)
      clear EN b4 HB3
      go_wp2_with fail
      refine (BG.out w4 K4.out).mono ?_
      rintro e w5 ⟨rfl, hE⟩
      have E5 := hid hE
      clear BG hE
      by_cases her5 : er9 = 0
      · subst her5
        have HP3 := hid (HPE2.out.trans (if_pos rfl))
        have HDL : Hid (q'.length - n1 = (q'.drop n1).length ∧ q'.length - n1 < gk) := ⟨HN.out.2.2.2.1.symm, by have h1 := HN.out.2.2.2.2; have h2 := HGK.out; omega⟩
        have RNX : Hid (LyR w c p B L tm vt lost KT MT 900000 P (q'.length - n1) (.slice adr (q'.length - n1) capr) w5) := by
          obtain ⟨⟨o1, o2, o3⟩, i1, s1, d1, n2⟩ := HN.out
          obtain ⟨b1, b2, b3⟩ := HB.out
          obtain ⟨c5, v5, l5, e1, e2, e3⟩ := E5.out
          refine ⟨fu1, ls9, d9, q'.drop n1, adr, capr, _, _, by rw [d1], by rw [d1]; exact Nat.le_refl _, by rw [d1]; have := HFU.out; have := HFU1.out; omega, HP3.out, fun e => by rw [e] at o3; simp at o3; rw [o3] at hlsne; exact hlsne rfl, o1, i1, by rw [d1]; omega, by rw [d1]; omega, by rw [d1]; omega, fun x hx => HOK.out x (List.mem_of_mem_drop hx), c5, v5, l5, e1, e2, (SX.out.keep1 K4.out).trans e3, ?_⟩
          rw [d1]; exact (REH.out.keep K4.out).stp e3
        clear HP3 HPE2 HN HB E5 SX GX EX REH FEH HSO HOK HPI HGK HFU HLM K4
        go_wp2
        go_roundg (q'.length - n1)
        case measure => exact HDL.out.2
        case rel => exact RNX
      · have hne5 : (er9 != 0) = true := by simp [her5]
        obtain rfl : P = (d9, ls9, er9) := HPE2.out.trans (if_neg her5)
        have FIN : Hid (LgE w c p d9 B L tm vt lost ls9 w5) := E5.out.trans (SX.out.keep1 K4.out)
        clear HPE2 HN HB E5 SX GX EX REH FEH HSO HOK HPI HGK HFU HLM K4
        go_wp2
        (try simp only [Exit.inBlock, Exit.then])
        go_ret
        exact ⟨rfl, FIN.out⟩
  · have g1 : decide ((n : Int) > 0) = true := decide_eq_true (by omega)
    have g2 : decide (n > 0) = true := decide_eq_true (by omega)
    have HL2 := hid (HLY.out.trans (if_neg h0))
    clear HLY SL1
    go_wp2_with fail
    refine (FL.out w1 K1.out).mono ?_
    rintro e w2 ⟨rfl, hE⟩
    have E2 := hid hE
    clear FL hE
    by_cases her : er = 0
    · subst her
      obtain rfl : P = P2 := HL2.out.trans (if_pos rfl)
      have SL := hid (SL2.out w1 w2 K1.out E2.out)
      clear HL2 SL2 K1 E2 FRUN
      go_wp2_with fail
      go_loopg [1] (q.length - n) (fun gk t1 wr => Hid (LyR w c p B L tm vt lost KT MT 900000 P gk t1 wr))
      case atStart => exact SL
      case round =>
        clear SL
        obtain ⟨fu, ls, dk, q', ad, cap, Kk, Mk, rfl, hgk, hfu, hpe, hne, hso, hpi, hkk, hmk, hll, hok, ck, vk, lk, hG, hlm, hS, hE⟩ := hrel.out
        have HGK := hid hgk
        have HSO := hid hso
        have HOK := hid hok
        have HPI := hid hpi
        have HB := hid (And.intro hkk (And.intro hmk hll))
        have GX := hid hG
        have SX := hid hS
        have EX := hid hE
        have HLM := hid hlm
        have HPE := hid hpe
        have HFU := hid hfu
        clear hrel hgk hso hok hpi hkk hmk hll hG hS hE hpe hfu
        by_cases hz : q'.length = 0
        · have d1 : decide ((q'.length : Int) > 0) = false := decide_eq_false (by omega)
          have d2 : decide (q'.length > 0) = false := decide_eq_false (by omega)
          have hq0 : q' = [] := List.length_eq_zero_iff.1 hz
          obtain rfl : P = (dk, ls, 0) := by rw [HPE.out, hq0, lpS_nil]
          have FIN : Hid (LgE w c p dk B L tm vt lost ls wr) := ⟨ck, vk, lk, GX.out, HLM.out, SX.out⟩
          clear HPE HFU GX SX EX hz hq0
          go_wp2
          (try simp only [Exit.inBlock, Exit.then])
          go_ret
          exact ⟨rfl, FIN.out⟩
        have d1 : decide ((q'.length : Int) > 0) = true := decide_eq_true (by omega)
        have d2 : decide (q'.length > 0) = true := decide_eq_true (by omega)
        have hlsne := hne
        obtain ⟨lk0, yk, hlk⟩ := snoc_of (l := lk) (fun e => by rw [e] at hlm; exact hne hlm.symm)
        subst hlk
        have hyk : SgO yk.sg := HSO.out yk.sg (by rw [← hlm]; simp)
        have hgl : ls.getLast? = some yk.sg := by rw [← hlm]; simp
        obtain ⟨n1, hn1⟩ : ∃ n1, n1 = min 8 q'.length := ⟨_, rfl⟩
        obtain ⟨fu1, hfu1⟩ : ∃ f, fu = f + 1 := ⟨fu - 1, by have := HFU.out; omega⟩
        have HFU1 := hid hfu1
        have HPE2 : Hid (P = if (bgS dk ls yk.sg.en.toNat yk.sg.lt.toNat (q'.take n1)).2.2 = 0 then lpS fu1 (bgS dk ls yk.sg.en.toNat yk.sg.lt.toNat (q'.take n1)).1 (bgS dk ls yk.sg.en.toNat yk.sg.lt.toNat (q'.take n1)).2.1 (q'.drop n1) else bgS dk ls yk.sg.en.toNat yk.sg.lt.toNat (q'.take n1)) := by
          show _ = _
          rw [HPE.out, hfu1]
          exact lpS_cons hz hgl n1 hn1
        have hn2 : 1 ≤ n1 ∧ n1 ≤ 8 ∧ n1 ≤ q'.length := by omega
        have hen := en_bd hyk
        have hlt := lt_bd hyk
        obtain ⟨adf, capf, FE, FRUN⟩ := EX.out.first n1 hn2.2.2
        obtain ⟨adr, capr, RE, RRUN⟩ := EX.out.rest n1 hn2.2.2
        have FEH := hid FE
        have REH := hid RE
        obtain ⟨m, hm⟩ : ∃ m, lk0.length = m := ⟨_, rfl⟩
        have hlkl : (lk0 ++ [yk]).length = ls.length := by rw [← hlm, List.length_map]
        have LA := hid (wlast_any GX.out.lg.lg m (by simp [hm]) (by have := HB.out.2.2; omega) yk (by simp [← hm]))
        have EN : Hid (∀ W, Below wr.heap.size wr W → Calls Tryz.prog 64 #[.agg #[.int .i64 yk.n, .int .i64 yk.ix, .int .i64 yk.tm, yk.ve, yk.vp]] W fun e w' => e = .returned (.tuple #[.int .i64 (yk.sg.en.toNat : Int), .int .i64 (yk.sg.lt.toNat : Int)]) ∧ Below W.heap.size W w') := fun W b => by
          rw [Int.toNat_of_nonneg hen.1, Int.toNat_of_nonneg hlt.1]
          exact sgend_any yk.n yk.ix yk.tm yk.ve yk.vp yk.es W ((GX.out.lg.lg.sg.sg yk (by simp)).oe.ents.next b) hyk.i0 (by have : yk.ix ≤ 1099511627776 := hyk.i1; omega) (by have : yk.es.length ≤ 8 := hyk.es; omega)
        have hol : ∀ x ∈ q'.take n1, enOk x := fun x hx => HOK.out x (List.mem_of_mem_take hx)
        have hln : (q'.take n1).length = n1 := by rw [List.length_take]; omega
        have BG : Hid (∀ W, Keep (fun _ => False) wr W → Calls Tryz.prog 124 #[.pointer (some ⟨L, 0, none⟩), .int .i64 (yk.sg.en.toNat : Int), .int .i64 (yk.sg.lt.toNat : Int), .slice adf n1 capf] W fun e w' => e = .returned (.int .i64 (bgS dk ls yk.sg.en.toNat yk.sg.lt.toNat (q'.take n1)).2.2) ∧ LgE W ck p (bgS dk ls yk.sg.en.toNat yk.sg.lt.toNat (q'.take n1)).1 B L tm vt lost (bgS dk ls yk.sg.en.toNat yk.sg.lt.toNat (q'.take n1)).2.1 w') := fun W k => by
          rw [← HLM.out]
          have hm2 := HPI.out.m
          have hn3 := HPI.out.n
          have hkm := HKM.out
          exact begin_any (GX.out.keep1 k) yk.sg.en.toNat yk.sg.lt.toNat (by omega) (by omega) (.slice adf n1 capf) (q'.take n1) (FEH.out.keep k).ents (FEH.out.keep k).col hol (by omega) (fun z hz => by have := HSO.out z.sg (by rw [← HLM.out]; exact List.mem_map_of_mem hz); exact ⟨this.n0, this.n1⟩) (by have := HB.out.2.2; omega) (by have := HB.out.2.1; omega) (by have := HB.out.1; omega)
        have HOK2 := bgS_ok (d := dk) (ix := yk.sg.en.toNat) (tm := yk.sg.lt.toNat) HSO.out (by omega) (by omega) hol
        have HPI2 := bgS_PI HPI.out ls yk.sg.en.toNat yk.sg.lt.toNat (q'.take n1)
        have hsp := txW_split q' n1
        have hdl : (q'.drop n1).length = q'.length - n1 := List.length_drop
        have HN := hid (And.intro HOK2 (And.intro HPI2 (And.intro hsp (And.intro hdl hn2))))
        have hmn : (if (q'.length : Int) < 8 then (q'.length : Int) else 8) = (n1 : Int) := by split <;> omega
        have hmn3 : min 8 q'.length = n1 := hn1.symm
        have hmn2 : min (8 : Int) (q'.length : Int) = (n1 : Int) := by omega
        clear hyk hgl HPE hfu1 hen hlt FE RE hlkl hol hln hn1 HOK2 HPI2 hsp hdl hlm hm hn2 hz
        unfold sgV at LA
        generalize yk.sg.en.toNat = enn at *
        generalize yk.sg.lt.toNat = ltn at *
        generalize hA : bgS dk ls enn ltn (q'.take n1) = A at *
        obtain ⟨d9, ls9, er9⟩ := A
        simp only at *
        clear hA
        go_wp2_with fail
        refine LA.out.mono ?_
        rintro e w3 ⟨rfl, b3⟩
        have HB3 := hid b3
        clear LA b3
        go_wp2_with fail
        refine (EN.out _ HB3.out).mono ?_
        rintro e w4 ⟨rfl, b4⟩
        have K4 : Hid (Keep (fun _ => False) wr w4) := (HB3.out.keep _).trans (b4.keep _)
        clear EN b4 HB3
        go_wp2_with fail
        refine (BG.out w4 K4.out).mono ?_
        rintro e w5 ⟨rfl, hE⟩
        have E5 := hid hE
        clear BG hE
        by_cases her5 : er9 = 0
        · subst her5
          have HP3 := hid (HPE2.out.trans (if_pos rfl))
          have HDL : Hid (q'.length - n1 = (q'.drop n1).length ∧ q'.length - n1 < gk) := ⟨HN.out.2.2.2.1.symm, by have h1 := HN.out.2.2.2.2; have h2 := HGK.out; omega⟩
          have RNX : Hid (LyR w c p B L tm vt lost KT MT 900000 P (q'.length - n1) (.slice adr (q'.length - n1) capr) w5) := by
            obtain ⟨⟨o1, o2, o3⟩, i1, s1, d1, n2⟩ := HN.out
            obtain ⟨b1, b2, b3⟩ := HB.out
            obtain ⟨c5, v5, l5, e1, e2, e3⟩ := E5.out
            refine ⟨fu1, ls9, d9, q'.drop n1, adr, capr, _, _, by rw [d1], by rw [d1]; exact Nat.le_refl _, by rw [d1]; have := HFU.out; have := HFU1.out; omega, HP3.out, fun e => by rw [e] at o3; simp at o3; rw [o3] at hlsne; exact hlsne rfl, o1, i1, by rw [d1]; omega, by rw [d1]; omega, by rw [d1]; omega, fun x hx => HOK.out x (List.mem_of_mem_drop hx), c5, v5, l5, e1, e2, (SX.out.keep1 K4.out).trans e3, ?_⟩
            rw [d1]; exact (REH.out.keep K4.out).stp e3
          clear HP3 HPE2 HN HB E5 SX GX EX REH FEH HSO HOK HPI HGK HFU HLM K4
          go_wp2
          go_roundg (q'.length - n1)
          case measure => exact HDL.out.2
          case rel => exact RNX
        · have hne5 : (er9 != 0) = true := by simp [her5]
          obtain rfl : P = (d9, ls9, er9) := HPE2.out.trans (if_neg her5)
          have FIN : Hid (LgE w c p d9 B L tm vt lost ls9 w5) := E5.out.trans (SX.out.keep1 K4.out)
          clear HPE2 HN HB E5 SX GX EX REH FEH HSO HOK HPI HGK HFU HLM K4
          go_wp2
          (try simp only [Exit.inBlock, Exit.then])
          go_ret
          exact ⟨rfl, FIN.out⟩
    · have hne : (er != 0) = true := by simp [her]
      obtain rfl : P = (d2, ls2, er) := HL2.out.trans (if_neg her)
      have FIN : Hid (LgE w c p d2 B L tm vt lost ls2 w2) := E2.out.trans ⟨fun _ _ => rfl, K1.out.mono (fun _ _ h => h.elim)⟩
      clear HL2 SL2 K1 E2
      go_wp2
      go_ret
      exact ⟨rfl, FIN.out⟩
end Go.Proofs.YtefbioainibmaaaGreatDoor
namespace Go.Proofs.YtefbioainibmaaaGreatDoor
open Go.RowKit Go.Maps
set_option linter.unusedVariables false
set_option linter.unusedSimpArgs false

theorem eaL_call {w wi : World} {c : Nat → Nat} {B L p : Nat} {d : Ds} {tm vt : Int} {lost : Bool} {ls : List Sg} (h : LgE w c p d B L tm vt lost ls wi) {x t a : Int} (hh : HdI x t ls) (ha0 : x < a) (ha1 : a ≤ 4611686018427387904) (hs : ∀ z ∈ ls, SgO z) (hl : ls.length ≤ 500000) {K M : Nat} (hp : PI d K M) (hK : K ≤ 1000000000000) (hM : M ≤ 60000000000) :
    Calls Tryz.prog 113 #[.pointer (some ⟨L, 0, none⟩), .int .i64 a] wi fun e w' => e = .returned (.int .i64 (eaL a d ls).2.2) ∧ LgE w c p (eaL a d ls).1 B L tm vt lost (eaL a d ls).2.1 w' :=
  stepG h fun W c v l hD hls => by
    cases l with
    | nil => rw [← hls] at hh; exact absurd rfl hh.ne
    | cons y0 r0 =>
      subst hls
      obtain ⟨z, r, hz, hx, -⟩ := hh
      rw [List.map_cons, List.cons.injEq] at hz
      obtain ⟨rfl, -⟩ := hz
      have hr : (r0.map Sv.sg).length = r0.length := List.length_map _
      have h9 := endAhead_any hD a (by have : y0.ix = x := hx; omega) ha1 (fun y hy => (hs y.sg (List.mem_map_of_mem hy)).v) (by simp at hl; omega) hp hK hM
      rw [← hr] at h9
      exact h9
theorem lyL_call {w wi : World} {c : Nat → Nat} {B L p : Nat} {d : Ds} {tm vt : Int} {lost : Bool} {ls : List Sg} (h : LgE w c p d B L tm vt lost ls wi) {x t : Int} (hh : HdI x t ls) (hs : ∀ z ∈ ls, SgO z) (qv : Value) (q : List En) (hq : EnS w c qv q) (hok : ∀ x ∈ q, enOk x) (hl : ls.length + q.length ≤ 900000) {K M : Nat} (hPI : PI d K M) (hK : K + q.length + 1 ≤ 1000000000000) (hM : M + 29 * q.length + (txW q).length + 1 ≤ 70000000000) :
    Calls Tryz.prog 114 #[.pointer (some ⟨L, 0, none⟩), qv] wi fun e w' => e = .returned (.int .i64 (lyL d ls q).2.2) ∧ LgE w c p (lyL d ls q).1 B L tm vt lost (lyL d ls q).2.1 w' := by
  obtain ⟨c2, v2, l2, h1, h2, h3⟩ := h
  rcases List.eq_nil_or_concat l2 with rfl | ⟨l1, yv, rfl⟩
  · rw [← h2] at hh; exact absurd rfl hh.ne
  · rw [List.concat_eq_append] at *
    subst h2
    have e : lyL d ((l1 ++ [yv]).map Sv.sg) q = lyS d (l1.map Sv.sg) yv.sg q := by unfold lyL; simp
    rw [e]
    refine (lay_wal h1 (fun z hz => hs z.sg (List.mem_map_of_mem hz)) qv q (hq.stp h3) hok (by simp at hl; omega) hPI hK hM).mono fun e w' ⟨he, hL⟩ => ⟨he, hL.trans h3⟩
theorem sn_call {w wi : World} {c : Nat → Nat} {B L p : Nat} {d : Ds} {tm vt : Int} {lost : Bool} {ls : List Sg} (h : LgE w c p d B L tm vt lost ls wi) (hm : d.wt + d.S.length + d.ws.length + 1000 ≤ 70368744177) :
    Calls Tryz.prog 40 #[.pointer (some ⟨p, 0, none⟩)] wi fun e w' => e = .returned (.int .i64 (synR d).2) ∧ LgE w c p (synR d).1 B L tm vt lost ls w' :=
  stepGD h fun W c D => sync_all p c _ W D (by omega)
set_option maxRecDepth 100000 in
set_option maxHeartbeats 8000000 in
theorem replace_wal {w wi : World} {c : Nat → Nat} {B L p : Nat} {d : Ds} {tm vt : Int} {lost : Bool} {ls : List Sg} (h : LgE w c p d B L tm vt lost ls wi) {x t a : Int} (hh : HdI x t ls) (ha0 : x < a) (ha1 : a ≤ 4611686018427387904) (hs : ∀ z ∈ ls, SgO z) (qv : Value) (q : List En) (hq : EnS w c qv q) (hok : ∀ x ∈ q, enOk x) (hl : ls.length + q.length ≤ 500000) {K M : Nat} (hPI : PI d K M) (hK : K ≤ 999990000000) (hM : M + (txW q).length ≤ 59900000000) :
    Calls Tryz.prog 68 #[.pointer (some ⟨L, 0, none⟩), .int .i64 a, qv] wi fun e w' => e = .returned (.int .i64 (rpS a d ls q).2.2) ∧ LgE w c p (rpS a d ls q).1 B L tm vt lost (rpS a d ls q).2.1 w' := by
  obtain ⟨P, hP⟩ : ∃ P, P = rpS a d ls q := ⟨_, rfl⟩
  rw [← hP]
  unfold rpS at hP
  have C1 := hid (eaL_call h hh ha0 ha1 hs (by omega) hPI (by omega) (by omega))
  obtain ⟨s1, h1, p1, n1⟩ := eaL_ok (a := a) hh hs hPI
  generalize eaL a d ls = A1 at *
  obtain ⟨d1, l1, e1⟩ := A1
  simp only at *
  have C2 : Hid (∀ W, LgE w c p d1 B L tm vt lost l1 W → Calls Tryz.prog 114 #[.pointer (some ⟨L, 0, none⟩), qv] W fun e w' => e = .returned (.int .i64 (lyL d1 l1 q).2.2) ∧ LgE w c p (lyL d1 l1 q).1 B L tm vt lost (lyL d1 l1 q).2.1 w') := fun W hE => lyL_call hE h1 s1 qv q hq hok (by omega) p1 (by omega) (by omega)
  obtain ⟨s2, h2, p2, n2⟩ := lyL_ok h1 s1 hok p1
  generalize lyL d1 l1 q = A2 at *
  obtain ⟨d2, l2, e2⟩ := A2
  simp only at *
  have C3 : Hid (∀ W, LgE w c p d2 B L tm vt lost l2 W → Calls Tryz.prog 113 #[.pointer (some ⟨L, 0, none⟩), .int .i64 a] W fun e w' => e = .returned (.int .i64 (eaL a d2 l2).2.2) ∧ LgE w c p (eaL a d2 l2).1 B L tm vt lost (eaL a d2 l2).2.1 w') := fun W hE => eaL_call hE h2 ha0 ha1 s2 (by omega) p2 (by omega) (by omega)
  obtain ⟨s3, h3, p3, n3⟩ := eaL_ok (a := a) h2 s2 p2
  have C4 : Hid (∀ W, LgE w c p d2 B L tm vt lost l2 W → Calls Tryz.prog 40 #[.pointer (some ⟨p, 0, none⟩)] W fun e w' => e = .returned (.int .i64 (synR d2).2) ∧ LgE w c p (synR d2).1 B L tm vt lost l2 w') := fun W hE => sn_call hE (by have := p2.m; omega)
  have HP : Hid (P = if e1 = 0 then (if e2 = 22 then (if (eaL a d2 l2).2.2 = 0 then snP (eaL a d2 l2) 22 else eaL a d2 l2) else if e2 = 0 then snP (d2, l2, e2) 0 else (d2, l2, e2)) else (d1, l1, e1)) := hP
  generalize eaL a d2 l2 = A3 at *
  obtain ⟨d3, l3, e3⟩ := A3
  simp only at *
  have C5 : Hid (∀ W, LgE w c p d3 B L tm vt lost l3 W → Calls Tryz.prog 40 #[.pointer (some ⟨p, 0, none⟩)] W fun e w' => e = .returned (.int .i64 (synR d3).2) ∧ LgE w c p (synR d3).1 B L tm vt lost l3 w') := fun W hE => sn_call hE (by have := p3.m; omega)
  have ZL : Hid (∀ d ls W, LgE w c p d B L tm vt lost ls W → W.cell? ⟨L, 0, none⟩ = some (.pointer (some ⟨p, 0, none⟩))) := fun d ls W h => by obtain ⟨c2, v2, l2, h1, h2, h3⟩ := h; exact h1.lg.lg.bx.cellAt (o := 0) rfl
  clear h hh ha0 ha1 hs hq hok hl hPI hK hM s1 h1 p1 n1 s2 h2 p2 n2 s3 h3 p3 n3 hP
  unfold snP at HP
  simp only at HP
  generalize hY2 : synR d2 = Y2 at *
  obtain ⟨y2, f2⟩ := Y2
  generalize hY3 : synR d3 = Y3 at *
  obtain ⟨y3, f3⟩ := Y3
  simp only at *
  clear hY2 hY3
  go_enter Tryz.func68, Tryz.ntmps68
  go_wp2_with fail
  refine C1.out.mono ?_
  rintro e w1 ⟨rfl, hE⟩
  have E1 := hid hE
  clear C1 hE
  by_cases g1 : e1 = 0
  case neg =>
    have hne : (e1 != 0) = true := by simp [g1]
    obtain rfl : P = (d1, l1, e1) := HP.out.trans (if_neg g1)
    clear C2 C3 C4 C5 ZL HP
    go_wp2
    go_ret
    exact ⟨rfl, E1.out⟩
  case pos =>
  subst g1
  have HP1 := hid (HP.out.trans (if_pos rfl))
  clear HP
  go_wp2_with fail
  refine (C2.out _ E1.out).mono ?_
  rintro e w2 ⟨rfl, hE⟩
  have E2 := hid hE
  clear C2 hE E1
  by_cases g2 : e2 = 22
  · subst g2
    have HP2 := hid (HP1.out.trans (if_pos rfl))
    clear HP1 C4
    go_wp2_with fail
    refine (C3.out _ E2.out).mono ?_
    rintro e w3 ⟨rfl, hE⟩
    have E3 := hid hE
    clear C3 hE E2
    by_cases g3 : e3 = 0
    case neg =>
      have hne : (e3 != 0) = true := by simp [g3]
      obtain rfl : P = (d3, l3, e3) := HP2.out.trans (if_neg g3)
      clear C5 ZL HP2
      go_wp2
      go_ret
      exact ⟨rfl, E3.out⟩
    case pos =>
    subst g3
    have HP3 := hid (HP2.out.trans (if_pos rfl))
    have c0 := ZL.out _ _ _ E3.out
    clear HP2
    go_wp2_with fail
    refine (C5.out _ E3.out).mono ?_
    rintro e w4 ⟨rfl, hE⟩
    have E4 := hid hE
    clear C5 hE E3 c0
    by_cases g4 : f3 = 0
    · subst g4
      obtain rfl : P = (y3, l3, 22) := HP3.out
      clear HP3 ZL
      go_wp2
      go_ret
      exact ⟨rfl, E4.out⟩
    · have hne : (f3 != 0) = true := by simp [g4]
      obtain rfl : P = (y3, l3, f3) := by rw [HP3.out, if_neg g4]
      clear HP3 ZL
      go_wp2
      go_ret
      exact ⟨rfl, E4.out⟩
  · have hne : (e2 == 22) = false := by simp [g2]
    have HP2 := hid (HP1.out.trans (if_neg g2))
    clear HP1 C3 C5
    by_cases g3 : e2 = 0
    · subst g3
      have HP3 := hid (HP2.out.trans (if_pos rfl))
      have c0 := ZL.out _ _ _ E2.out
      clear HP2
      go_wp2_with fail
      refine (C4.out _ E2.out).mono ?_
      rintro e w4 ⟨rfl, hE⟩
      have E4 := hid hE
      clear C4 hE E2 c0
      by_cases g4 : f2 = 0
      · subst g4
        obtain rfl : P = (y2, l2, 0) := HP3.out
        clear HP3 ZL
        go_wp2
        go_ret
        exact ⟨rfl, E4.out⟩
      · have hne : (f2 != 0) = true := by simp [g4]
        obtain rfl : P = (y2, l2, f2) := by rw [HP3.out, if_neg g4]
        clear HP3 ZL
        go_wp2
        go_ret
        exact ⟨rfl, E4.out⟩
    · have hne2 : (e2 != 0) = true := by simp [g3]
      obtain rfl : P = (d2, l2, e2) := HP2.out.trans (if_neg g3)
      clear HP2 ZL C4
      go_wp2
      go_ret
      exact ⟨rfl, E2.out⟩
end Go.Proofs.YtefbioainibmaaaGreatDoor
namespace Go.Proofs.YtefbioainibmaaaGreatDoor
open Go.RowKit Go.Maps
set_option linter.unusedVariables false
set_option linter.unusedSimpArgs false

/-- the first refusal among entries -/
def rfL : List En → Int
  | [] => 0
  | x :: r => if rfE x = 0 then rfL r else rfE x
theorem rfE_ok {x : En} (h : rfE x = 0) : enOk x := by
  unfold rfE at h
  split at h
  · cases h
  · rename_i h1
    split at h
    · cases h
    · rename_i h2
      have h3 : ¬ tmOk x.tm = false := fun e => h1 (.inl e)
      have h4 : ¬ x.kd < 0 := fun e => h1 (.inr (.inl e))
      have h5 : ¬ 255 < x.kd := fun e => h1 (.inr (.inr e))
      have h6 : tmOk x.tm = true := by simpa using h3
      unfold tmOk at h6
      simp at h6
      exact ⟨by omega, by omega, by omega, by omega, by omega⟩
theorem rfL_ok : ∀ {q : List En}, rfL q = 0 → ∀ x ∈ q, enOk x
  | [], _, x, hx => by simp at hx
  | y :: r, h, x, hx => by
    unfold rfL at h
    split at h
    · rename_i h0
      rcases List.mem_cons.1 hx with rfl | hx
      · exact rfE_ok h0
      · exact rfL_ok h x hx
    · rename_i h0; exact absurd h h0
theorem rfL_drop {q : List En} {k : Nat} (hk : k < q.length) : rfL (q.drop k) = if rfE q[k] = 0 then rfL (q.drop (k + 1)) else rfE q[k] := by
  rw [List.drop_eq_getElem_cons hk]
  rfl
/-- the index of a log's base, and of its last entry -/
def bxL (ls : List Sg) : Int := match ls with
  | [] => 0
  | z :: _ => z.ix
def enL (ls : List Sg) : Int := match ls.getLast? with
  | none => 0
  | some y => y.en
/-- what Append makes of a log and a disk, what it answers, and whether the log is lost -/
def apS (lost : Bool) (a : Int) (d : Ds) (ls : List Sg) (q : List En) : (Ds × List Sg × Int) × Bool :=
  if lost = true then ((d, ls, 21), true)
  else if a ≤ bxL ls ∨ enL ls + 1 < a then ((d, ls, 30), false)
  else if rfL q = 0 then (rpS a d ls q, (rpS a d ls q).2.2 == 21) else ((d, ls, rfL q), false)
theorem done_call {w wi : World} {c : Nat → Nat} {B L p : Nat} {d : Ds} {tm vt : Int} {lost : Bool} {ls : List Sg} (h : LgE w c p d B L tm vt lost ls wi) (er : Int) :
    Calls Tryz.prog 67 #[.pointer (some ⟨L, 0, none⟩), .int .i64 er] wi fun e w' => e = .returned (.int .i64 er) ∧ LgE w c p d B L tm vt (er == 21) ls w' :=
  stepG h fun W c v l hD hls => (wdone_any hD.lg.lg er).mono fun e w' ⟨he, i, k⟩ => ⟨he, by
    obtain ⟨h1, h2⟩ := hD.own (k.mono (fun j _ e => by rw [e]; exact hD.cL)) i hD.cv hD.cs
    exact ⟨c, v, l, h1, hls, h2⟩⟩
/-- what the loop over the refusals keeps -/
def AcR (w : World) (q : List En) (gk : Nat) (i : Value) (wr : World) : Prop :=
  ∃ k : Nat, k ≤ q.length ∧ gk = q.length - k ∧ i = .int .i64 (k : Int) ∧ rfL q = rfL (q.drop k) ∧ Keep (fun _ => False) w wr
set_option maxRecDepth 100000 in
set_option maxHeartbeats 8000000 in
theorem append_wal {w : World} {c : Nat → Nat} {B L p : Nat} {d : Ds} {tm vt : Int} {lost : Bool} {v : Value} {l : List Sv} (h : LgD w c p d B L tm vt lost v l) (hne : l ≠ []) (hs : ∀ z ∈ l, SgO z.sg) (a : Int) (qv : Value) (q : List En) (hq : EnS w c qv q) (hl : l.length + q.length ≤ 500000) {K M : Nat} (hPI : PI d K M) (hK : K ≤ 999990000000) (hM : M + (txW q).length ≤ 59900000000) :
    Calls Tryz.prog 21 #[.pointer (some ⟨L, 0, none⟩), .int .i64 a, qv] w fun e w' => e = .returned (.int .i64 (apS lost a d (l.map Sv.sg) q).1.2.2) ∧ LgE w c p (apS lost a d (l.map Sv.sg) q).1.1 B L tm vt (apS lost a d (l.map Sv.sg) q).2 (apS lost a d (l.map Sv.sg) q).1.2.1 w' := by
  obtain ⟨P, hP⟩ : ∃ P, P = apS lost a d (l.map Sv.sg) q := ⟨_, rfl⟩
  rw [← hP]
  unfold apS at hP
  have RF := hid (wrefuses_any h.lg.lg)
  have HE : Hid (∀ W, Keep (fun _ => False) w W → LgE w c p d B L tm vt lost (l.map Sv.sg) W) := fun W k => ⟨c, v, l, h.keep1 k, rfl, fun _ _ => rfl, k.mono (fun _ _ h => h.elim)⟩
  cases lost with
  | true =>
    obtain rfl : P = ((d, l.map Sv.sg, 21), true) := hP
    have FIN := hid (HE.out w (Keep.refl _ _))
    clear h hne hs hq hl hPI hK hM HE
    go_enter Tryz.func21, Tryz.ntmps21
    go_wp2_with fail
    refine RF.out.mono ?_
    rintro e w1 ⟨rfl, rfl⟩
    clear RF
    go_wp2
    go_ret
    exact ⟨rfl, FIN.out⟩
  | false =>
  rw [if_neg (by simp)] at hP
  obtain ⟨y0, r0, hl0⟩ : ∃ y0 r0, l = y0 :: r0 := by cases l with
    | nil => exact absurd rfl hne
    | cons y r => exact ⟨y, r, rfl⟩
  obtain ⟨l1, y, hl1⟩ := snoc_of hne
  have hy0 := hs y0 (by rw [hl0]; simp)
  have hy := hs y (by rw [hl1]; simp)
  have hbx : bxL (l.map Sv.sg) = y0.ix := by rw [hl0]; rfl
  have henl : enL (l.map Sv.sg) = y.ix + y.es.length := by rw [hl1]; unfold enL; simp; rfl
  have hhd : HdI y0.ix y0.tm (l.map Sv.sg) := ⟨y0.sg, r0.map Sv.sg, by rw [hl0]; rfl, rfl, rfl⟩
  have hi0 : 0 ≤ y.ix := hy.i0
  have hi1 : y.ix ≤ 1099511627776 := hy.i1
  have hies : y.es.length ≤ 8 := hy.es
  have BA : Hid (∀ W, Keep (fun _ => False) w W → Calls Tryz.prog 26 #[.pointer (some ⟨L, 0, none⟩)] W fun e w' => e = .returned (.tuple #[.int .i64 y0.ix, .int .i64 y0.tm]) ∧ Below W.heap.size W w') := fun W k => by
    have h1 := wbase_any (h.keep1 k).lg.lg (by rw [hl0]; simp) (by omega)
    simp only [hl0, List.getElem_cons_zero] at h1
    exact h1
  have EN : Hid (∀ W, Keep (fun _ => False) w W → Calls Tryz.prog 20 #[.pointer (some ⟨L, 0, none⟩)] W fun e w' => e = .returned (.tuple #[.int .i64 (y.ix + y.es.length), .int .i64 (enT y.tm y.es)]) ∧ Below W.heap.size W w') := fun W k =>
    wend_any (h.keep1 k).lg.lg l1.length (by rw [hl1]; simp) (by omega) y (by rw [hl1]; simp) hi0 (by omega) (by omega)
  rw [hbx, henl] at hP
  have HP := hid hP
  obtain ⟨aq, cq, rfl, -⟩ := hq.ents.form
  have RP : Hid (∀ W, Keep (fun _ => False) w W → rfL q = 0 → y0.ix < a → a ≤ y.ix + y.es.length + 1 → Calls Tryz.prog 68 #[.pointer (some ⟨L, 0, none⟩), .int .i64 a, .slice aq q.length cq] W fun e w' => e = .returned (.int .i64 (rpS a d (l.map Sv.sg) q).2.2) ∧ LgE w c p (rpS a d (l.map Sv.sg) q).1 B L tm vt false (rpS a d (l.map Sv.sg) q).2.1 w') := fun W k hr ha0 ha1 =>
    replace_wal (HE.out W k) hhd ha0 (by omega) (fun z hz => by obtain ⟨z0, hz0, rfl⟩ := List.mem_map.1 hz; exact hs z0 hz0) _ q hq (rfL_ok hr) (by simpa using hl) hPI hK hM
  have HQ := hid hq
  obtain ⟨en, hen⟩ : ∃ en, en = y.ix + (y.es.length : Int) := ⟨_, rfl⟩
  have hen2 : 0 ≤ en ∧ en ≤ 1099511627784 := by omega
  have HQL : Hid (q.length ≤ 500000) := by show _ ≤ _; omega
  rw [← hen] at EN RP HP
  generalize enT y.tm y.es = ent at *
  generalize y0.ix = bx at *
  generalize y0.tm = bt at *
  generalize rpS a d (l.map Sv.sg) q = A at *
  obtain ⟨dA, ls2, er⟩ := A
  generalize l.map Sv.sg = ls at *
  simp only at *
  have hw1 : wrap64 (en + 1) = en + 1 := IntWalk.wrap64_in _ (by omega)
  have hw2 : IntKind.i64.wrap (en + 1) = en + 1 := by rw [IntKind.wrap_i64]; omega
  clear h hne hs hq hl hPI hK hM hP hl0 hl1 hy0 hy hbx henl hhd hi0 hi1 hies hen
  go_enter Tryz.func21, Tryz.ntmps21
  go_wp2_with fail
  refine RF.out.mono ?_
  rintro e w1 ⟨rfl, rfl⟩
  clear RF
  go_wp2_with fail
  refine (BA.out _ (Keep.refl _ _)).mono ?_
  rintro e w2 ⟨rfl, b2⟩
  have K2 := hid (b2.keep (fun _ => False))
  clear BA b2
  go_wp2_with fail
  refine (EN.out _ K2.out).mono ?_
  rintro e w3 ⟨rfl, b3⟩
  have K3 := hid (K2.out.trans (b3.keep (fun _ => False)))
  clear EN b3 K2
  by_cases h1 : a ≤ bx
  · have d1 : decide (a ≤ bx) = true := decide_eq_true h1
    obtain rfl : P = ((d, ls, 30), false) := HP.out.trans (if_pos (.inl h1))
    have FIN := hid (HE.out _ K3.out)
    clear HE RP HP HQ K3
    go_wp2
    go_ret
    exact ⟨rfl, FIN.out⟩
  have d1 : decide (a ≤ bx) = false := decide_eq_false h1
  by_cases h2 : en + 1 < a
  · have d2 : decide (en + 1 < a) = true := decide_eq_true h2
    have d3 : decide (a > en + 1) = true := decide_eq_true h2
    obtain rfl : P = ((d, ls, 30), false) := HP.out.trans (if_pos (.inr h2))
    have FIN := hid (HE.out _ K3.out)
    clear HE RP HP HQ K3
    go_wp2
    go_ret
    exact ⟨rfl, FIN.out⟩
  have d2 : decide (en + 1 < a) = false := decide_eq_false h2
  have d3 : decide (a > en + 1) = false := decide_eq_false h2
  have HP1 := hid (HP.out.trans (if_neg (fun h => h.elim h1 h2)))
  have HA : Hid (bx < a ∧ a ≤ en + 1) := ⟨by omega, by omega⟩
  clear HP h1 h2 hen2
  have SL : Hid (AcR w1 q q.length (.int .i64 0) w3) := ⟨0, Nat.zero_le _, rfl, rfl, rfl, K3.out⟩
  clear K3
  go_wp2_with fail
  go_loopg [40] q.length (fun gk i wr => Hid (AcR w1 q gk i wr))
  case atStart => exact SL
  case round =>
    clear SL
    obtain ⟨k, hk, rfl, rfl, hr, hkp⟩ := hrel.out
    have HR := hid hr
    have KX := hid hkp
    clear hrel hr hkp
    by_cases hkl : k < q.length
    case neg =>
      have c1 : decide ((k : Int) < (q.length : Int)) = false := decide_eq_false (by omega)
      have c2 : decide (k < q.length) = false := decide_eq_false hkl
      have hr0 : rfL q = 0 := by rw [HR.out, List.drop_of_length_le (by omega)]; rfl
      obtain rfl : P = ((dA, ls2, er), er == 21) := HP1.out.trans (if_pos hr0)
      have RP2 := hid (RP.out _ KX.out hr0 HA.out.1 HA.out.2)
      clear RP HR HP1 HA hk hkl KX HE HQ hr0
      go_wp2_with fail
      refine RP2.out.mono ?_
      rintro e w4 ⟨rfl, hE⟩
      have DN := hid (done_call hE er)
      clear RP2 hE
      go_wp2_with fail
      refine DN.out.mono ?_
      rintro e w5 ⟨rfl, hE⟩
      have FIN := hid hE
      clear DN hE
      go_wp2
      go_ret
      exact ⟨rfl, FIN.out⟩
    have c1 : decide ((k : Int) < (q.length : Int)) = true := decide_eq_true (by omega)
    have c2 : decide (k < q.length) = true := decide_eq_true hkl
    have HW := HQ.out.keep KX.out
    obtain ⟨a9, c9, e9, hc9⟩ := HW.ents.form
    obtain ⟨bq, oq, hqa, -, y0c, y1c, y2c⟩ := hc9 k hkl
    injection e9 with e1 e2 e3
    obtain rfl : aq = some ⟨bq, oq, none⟩ := e1.trans hqa
    have hdr := rfL_drop hkl
    have HD := hid hdr
    have RE := hid (fun W => refusal_any q[k] W)
    have HLT := hid hkl
    have k0 : (0 : Int) ≤ (k : Int) := by omega
    have k1 : (k : Int) < (q.length : Int) := by omega
    have hwk : Hid (wrap64 ((k : Int) + 1) = ((k + 1 : Nat) : Int)) := by have := HQL.out; show _ = _; rw [IntWalk.wrap64_in _ (by omega)]; omega
    have hwk2 : Hid (IntKind.i64.wrap ((k : Int) + 1) = ((k + 1 : Nat) : Int)) := by have := HQL.out; show _ = _; rw [IntKind.wrap_i64]; omega
    generalize q[k] = x at *
    obtain ⟨xtm, xkd, xda⟩ := x
    simp only at RE y0c y1c y2c
    clear e1 e2 e3 hqa hc9 HW hdr hk hkl
    go_wp2_with fail
    refine (RE.out _).mono ?_
    rintro e w4 ⟨rfl, b4⟩
    have K4 := hid (KX.out.trans (b4.keep (fun _ => False)))
    clear b4 KX RE y0c y1c y2c
    generalize rfE ⟨xtm, xkd, xda⟩ = re at *
    by_cases hre : re = 0
    · subst hre
      have h7 := hwk.out
      have h8 := hwk2.out
      have NX : Hid (AcR w1 q (q.length - (k + 1)) (.int .i64 ((k + 1 : Nat) : Int)) w4) := ⟨k + 1, HLT.out, rfl, rfl, HR.out.trans (HD.out.trans (if_pos rfl)), K4.out⟩
      have NM : Hid (q.length - (k + 1) < q.length - k) := by have := HLT.out; show _ < _; omega
      clear HR HD K4 HLT hwk hwk2
      go_wp2
      go_roundg (q.length - (k + 1))
      case measure => exact NM.out
      case rel => exact NX
    · have hne : (re != 0) = true := by simp [hre]
      have hr1 : rfL q = re := HR.out.trans (HD.out.trans (if_neg hre))
      obtain rfl : P = ((d, ls, re), false) := by
        rw [hr1] at HP1
        exact HP1.out.trans (if_neg hre)
      have FIN := hid (HE.out _ K4.out)
      clear HR HD K4 HLT hwk hwk2 hr1 HE RP HP1 HA
      go_wp2
      (try simp only [Exit.inBlock, Exit.then])
      go_ret
      exact ⟨rfl, FIN.out⟩
end Go.Proofs.YtefbioainibmaaaGreatDoor
namespace Go.Proofs.YtefbioainibmaaaGreatDoor
open Go.RowKit Go.Maps
set_option linter.unusedVariables false
set_option linter.unusedSimpArgs false

/-- what SetHard makes of a disk, what it answers, and whether the log is lost -/
def shS (lost : Bool) (tn bv : Int) (d : Ds) : (Ds × Int) × Bool :=
  if lost = true then ((d, 21), true)
  else if hdOk tn bv = false then ((d, 1), false)
  else (layD d hnw hrd (hdB tn.toNat (bv + 1).toNat), (layD d hnw hrd (hdB tn.toNat (bv + 1).toNat)).2 == 21)
set_option maxRecDepth 100000 in
set_option maxHeartbeats 4000000 in
theorem sethard_wal {w : World} {c : Nat → Nat} {B L p : Nat} {d : Ds} {tm vt : Int} {lost : Bool} {v : Value} {l : List Sv} (h : LgD w c p d B L tm vt lost v l) (tn bv : Int) (hL : lost = false → hdOk tn bv = true → LyOk d hnw hrd (hdB tn.toNat (bv + 1).toNat)) :
    Calls Tryz.prog 36 #[.pointer (some ⟨L, 0, none⟩), .int .i64 tn, .int .i64 bv] w fun e w' => e = .returned (.int .i64 (shS lost tn bv d).1.2) ∧ LgE w c p (shS lost tn bv d).1.1 B L (if (shS lost tn bv d).1.2 = 0 then tn else tm) (if (shS lost tn bv d).1.2 = 0 then bv else vt) (shS lost tn bv d).2 (l.map Sv.sg) w' := by
  cases lost with
  | true =>
    have RF := hid (wrefuses_any h.lg.lg)
    have e : shS true tn bv d = ((d, 21), true) := rfl
    rw [e]
    have FIN := hid h.e
    clear h hL e
    go_enter Tryz.func36, Tryz.ntmps36
    go_wp2_with fail
    refine RF.out.mono ?_
    rintro e w1 ⟨rfl, rfl⟩
    clear RF
    go_wp2
    go_ret
    exact ⟨rfl, FIN.out⟩
  | false =>
  cases hok : hdOk tn bv with
  | false =>
    have RF := hid (wrefuses_any h.lg.lg)
    have MB := hid (fun W => hmayBe_any tn bv W)
    rw [hok] at MB
    have e : shS false tn bv d = ((d, 1), false) := by unfold shS; rw [if_neg (by simp), if_pos hok]
    rw [e]
    have HE : Hid (∀ W, Keep (fun _ => False) w W → LgE w c p d B L tm vt false (l.map Sv.sg) W) := fun W k => h.e.keep k
    clear h hL e hok
    go_enter Tryz.func36, Tryz.ntmps36
    go_wp2_with fail
    refine RF.out.mono ?_
    rintro e w1 ⟨rfl, rfl⟩
    clear RF
    go_wp2_with fail
    refine (MB.out _).mono ?_
    rintro e w2 ⟨rfl, b2⟩
    have KA : Hid (Keep (fun _ => False) w1 w2) := (keep_alloc (fun _ => False) w1 _).trans (b2.keep _)
    have KB : Hid (Keep (fun _ => False) w1 w2.drew) := KA.out.trans (keep_drew _ _)
    have FA := hid (HE.out _ KA.out)
    have FB := hid (HE.out _ KB.out)
    clear MB HE b2 KA KB
    go_wp2
    go_ret
    first | exact ⟨rfl, FA.out⟩ | exact ⟨rfl, FB.out⟩
  | true =>
    have hbd : 0 ≤ tn ∧ -1 ≤ bv := by
      unfold hdOk tmOk at hok
      simp at hok
      omega
    have ht : ((tn.toNat : Nat) : Int) = tn := Int.toNat_of_nonneg hbd.1
    have e : shS false tn bv d = (layD d hnw hrd (hdB tn.toNat (bv + 1).toNat), (layD d hnw hrd (hdB tn.toNat (bv + 1).toNat)).2 == 21) := by unfold shS; rw [if_neg (by simp), if_neg (by simp [hok])]
    rw [e]
    have h1 := wsethard_any h.lg tn.toNat (bv + 1).toNat bv (by omega) (by rw [ht]; exact hok) (hL rfl hok)
    rw [ht] at h1
    refine h1.mono fun e w' ⟨he, ⟨c', h2, h3⟩, h4⟩ => ⟨he, ?_⟩
    have g := h.gv.keepS h4 (fun g hg e => by
      have h5 := h.gc g hg
      rcases e with e | e
      · omega
      · rw [e, h.cL] at h5; omega)
    have hl := h.lg.lg
    refine ⟨c', v, l, ⟨h2, (h3 L hl.bx.lt).trans h.cL, fun g hg => (h3 g (hl.bltv hg)).trans (h.cv g hg), fun x hx g hg => (h3 g (hl.blts hx hg)).trans (h.cs x hx g hg), g.1, fun j hj => (h3 j (g.2 j hj)).trans (h.gc j hj), Nat.le_trans h.hB h4.size⟩, rfl, h3, h4.mono (fun j _ e => by
      rcases e with e | e
      · exact .inl e
      · exact .inr (by rw [e]; exact h.cL))⟩
end Go.Proofs.YtefbioainibmaaaGreatDoor
namespace Go.Proofs.YtefbioainibmaaaGreatDoor
open Go.RowKit Go.Maps
set_option linter.unusedVariables false
set_option linter.unusedSimpArgs false

end Go.Proofs.YtefbioainibmaaaGreatDoor
namespace Go.Proofs.YtefbioainibmaaaGreatDoor
open Go.RowKit Go.Maps
set_option linter.unusedVariables false
set_option linter.unusedSimpArgs false

end Go.Proofs.YtefbioainibmaaaGreatDoor
namespace Go.Proofs.YtefbioainibmaaaGreatDoor
open Go.RowKit Go.Maps
set_option linter.unusedVariables false
set_option linter.unusedSimpArgs false

end Go.Proofs.YtefbioainibmaaaGreatDoor
namespace Go.Proofs.YtefbioainibmaaaGreatDoor
open Go.RowKit Go.Maps Go.Lib Go.Sort Go.Shelf
set_option linter.unusedVariables false
set_option linter.unusedSimpArgs false

/-- the base of a segment, by its place -/
def ixA (ls : List Sg) (i : Nat) : Int := match ls[i]? with
  | some y => y.ix
  | none => 0
/-- bases do not fall -/
def AscA (ls : List Sg) : Prop := ∀ i j, i ≤ j → j < ls.length → ixA ls i ≤ ixA ls j
/-- how many segments have a base ahead of an index -/
def hoC (a : Int) (ls : List Sg) : Nat := (List.range ls.length).countP (fun i => !decide (a ≤ ixA ls i))
set_option maxRecDepth 100000 in
set_option maxHeartbeats 2000000 in
theorem clos118 (bL bI L g off N cap i : Nat) (a ix : Int) (W : World) (hi : i < N) (hN : N ≤ 900000) (hL : W.cell? ⟨bL, 0, none⟩ = some (.pointer (some ⟨L, 0, none⟩))) (hI : W.cell? ⟨bI, 0, none⟩ = some (.int .i64 a)) (h3 : W.cell? ⟨L, 3, none⟩ = some (.slice (some ⟨g, off, none⟩) N cap)) (hx : W.cell? ⟨g, off + i * 5 + 1, none⟩ = some (.int .i64 ix)) :
    Calls Tryz.prog 118 #[.int .i64 (i : Int), .pointer (some ⟨bL, 0, none⟩), .pointer (some ⟨bI, 0, none⟩)] W fun e w' => e = .returned (.bool (decide (a ≤ ix))) ∧ ∃ q, w' = W.drewN q := by
  have q0 : (0 : Int) ≤ (i : Int) := by omega
  have q1 : (i : Int) < (N : Int) := by omega
  clear hi hN
  go_enter Tryz.func118, Tryz.ntmps118
  go_wp2
  go_quiet (fail)
  go_wp2
  go_ret
  exact ⟨by first | rfl | simp, nq, rfl⟩
theorem ixA_sv {l : List Sv} {i : Nat} (hi : i < l.length) : ixA (l.map Sv.sg) i = (l[i]).ix := by
  unfold ixA
  rw [List.getElem?_map, List.getElem?_eq_getElem hi]
  rfl
set_option maxRecDepth 100000 in
set_option maxHeartbeats 4000000 in
theorem holder_any {w : World} {B L p : Nat} {tm vt : Int} {lost : Bool} {v : Value} {l : List Sv} (h : LogI w B L p tm vt lost v l) (hne : l ≠ []) (hl : l.length ≤ 900000) (hs : AscA (l.map Sv.sg)) (a : Int) :
    Calls Tryz.prog 72 #[.pointer (some ⟨L, 0, none⟩), .int .i64 a] w fun e w' => e = .returned (.int .i64 ((hoC a (l.map Sv.sg) - 1 : Nat) : Int)) ∧ Below w.heap.size w w' := by
  have hl1 : 0 < l.length := List.length_pos_iff.2 hne
  have hL := h.bx.lt
  have h3 := h.bx.cellAt (o := 3) rfl
  obtain ⟨g, off, cap, hv, hg, -, -⟩ := h.sg.at 0 hl1
  subst hv
  obtain ⟨W0, hW0⟩ : ∃ W0, W0 = (w.alloc (.cells #[.pointer (some ⟨L, 0, none⟩)] 31)).alloc (.cells #[.int .i64 a] 3) := ⟨_, rfl⟩
  have hsize : W0.heap.size = w.heap.size + 1 + 1 := by rw [hW0]; simp
  have ca : W0.cell? ⟨w.heap.size, 0, none⟩ = some (.pointer (some ⟨L, 0, none⟩)) := by rw [hW0]; exact cell_alloc_sl _ (cell_new_sl w _ _)
  have cx : W0.cell? ⟨w.heap.size + 1, 0, none⟩ = some (.int .i64 a) := by rw [hW0]; have := cell_new_sl (w.alloc (.cells #[.pointer (some ⟨L, 0, none⟩)] 31)) (.int .i64 a) 3; rwa [World.size_alloc] at this
  have c3 : W0.cell? ⟨L, 3, none⟩ = some (.slice (some ⟨g, off, none⟩) l.length cap) := by rw [hW0]; exact cell_alloc_sl _ (cell_alloc_sl _ h3)
  have cc : ∀ i (hi : i < l.length), W0.cell? ⟨g, off + i * 5 + 1, none⟩ = some (.int .i64 (ixA (l.map Sv.sg) i)) := fun i hi => by
    rw [ixA_sv hi, hW0]
    exact cell_alloc_sl _ (cell_alloc_sl _ (h.sg.cellN i hi 1 _ rfl))
  have eg : ∀ args w, (callFunc 118 args).run Tryz.prog w = .ok (.enter 118 args) w := enters_of Tryz.func118 (by kernel_rfl) rfl
  have hS := Any.sort_Search searchLaid 118 #[.pointer (some ⟨w.heap.size, 0, none⟩), .pointer (some ⟨w.heap.size + 1, 0, none⟩)] l.length (fun i => decide (a ≤ ixA (l.map Sv.sg) i)) W0 eg (by omega)
    (fun m os i hi => (clos118 w.heap.size (w.heap.size + 1) L g off l.length cap i a _ _ hi hl (cell_grown (by simp [hsize]; omega) ca m os) (cell_grown (by simp [hsize]) cx m os) (cell_grown (by simp [hsize]; omega) c3 m os) (cell_grown (by simp [hsize]; omega) (cc i hi) m os)).mono
      fun _ _ ⟨he, q, hq⟩ => ⟨he, q, #[], by rw [hq, grow_empty]⟩) (fun x y hxy hy h => by have := hs x y hxy (by rw [List.length_map]; exact hy); simp at h ⊢; omega)
  change Calls Tryz.prog 79 _ _ _ at hS
  have hcn : (List.range l.length).countP (fun i => !decide (a ≤ ixA (l.map Sv.sg) i)) = hoC a (l.map Sv.sg) := by unfold hoC; rw [List.length_map]
  have hcl : hoC a (l.map Sv.sg) ≤ l.length := by rw [← hcn]; exact Nat.le_trans List.countP_le_length (by simp)
  rw [hcn] at hS
  clear hcn hs ca cx c3 cc h eg hne
  generalize hoC a (l.map Sv.sg) = r at *
  generalize l.length = N at *
  have HS := hid hS
  obtain ⟨m, hm⟩ : ∃ m, r - 1 = m := ⟨_, rfl⟩
  rw [hm]
  have x1 : max ((r : Int) - 1) 0 = (m : Int) := by omega
  have x2 : (if (r : Int) - 1 < 0 then 0 else (r : Int) - 1) = (m : Int) := by split <;> omega
  have x3 : wrap64 ((r : Int) - 1) = (r : Int) - 1 := IntWalk.wrap64_in _ (by omega)
  have x4 : IntKind.i64.wrap ((r : Int) - 1) = (r : Int) - 1 := by rw [IntKind.wrap_i64]; omega
  have HB : Hid (∀ q os, Below w.heap.size w (grow (W0.drewN q) os)) := fun q os => by
    have hB0 : Below w.heap.size w W0 := by rw [hW0]; exact ((Below.refl _ w).alloc (Nat.le_refl _) _).alloc (by simp) _
    exact hB0.trans (below_grown_sl w.heap.size W0 q os (by omega))
  clear hS hm hl hl1 hg hcl
  go_enter Tryz.func72, Tryz.ntmps72
  go_wp2_with fail
  rw [← hW0]
  refine HS.out.mono ?_
  rintro e w' ⟨rfl, q, os, rfl⟩
  have HB2 := hid (HB.out q os)
  clear HS HB hW0
  generalize grow (W0.drewN q) os = w5 at *
  go_wp2
  go_ret
  exact ⟨rfl, HB2.out⟩
end Go.Proofs.YtefbioainibmaaaGreatDoor
namespace Go.Proofs.YtefbioainibmaaaGreatDoor
open Go.RowKit Go.Maps Go.Lib Go.Sort Go.Shelf
set_option linter.unusedVariables false
set_option linter.unusedSimpArgs false

section
variable {w w' : World} {c : Nat → Nat} {B L p : Nat} {d d' : Ds} {tm vt : Int} {lost : Bool} {v : Value} {l : List Sv}
theorem LgD.fresh7 (h : LgD w c p d B L tm vt lost v l) (k : Keep (fun _ => False) w w') : ∃ c', LgD w' c' p d B L tm vt lost v l ∧ Stp w c w' c' ∧ ∀ j, w.heap.size ≤ j → c' j = 7 := by
  have hL := h.lg.lg.bx.lt
  have g := h.gv.keepS k (fun _ _ h => h)
  have h2 : ∀ j, j < w.heap.size → (fun j => if j < w.heap.size then c j else 7) j = c j := fun j hj => if_pos hj
  refine ⟨fun j => if j < w.heap.size then c j else 7, ⟨⟨h.lg.dk.keep k (fun j hj => if_pos hj) (fun _ _ h => h.elim), ⟨h.lg.lg.bx.keep k (fun h => h), h.lg.lg.sg.keep k (fun _ _ h => h) (fun _ _ _ _ h => h)⟩, ?_, fun g hg => ?_, fun x hx g hg => ?_⟩, (h2 L hL).trans h.cL, fun g hg => (h2 g (h.lg.lg.bltv hg)).trans (h.cv g hg), fun x hx g hg => (h2 g (h.lg.lg.blts hx hg)).trans (h.cs x hx g hg), g.1, fun j hj => (h2 j (g.2 j hj)).trans (h.gc j hj), Nat.le_trans h.hB k.size⟩, ⟨h2, k.mono (fun _ _ h => h.elim)⟩, fun j hj => if_neg (by omega)⟩
  · exact Nat.lt_of_lt_of_eq h.lg.cL (h2 L hL).symm
  · exact Nat.lt_of_lt_of_eq (h.lg.cv g hg) (h2 g (h.lg.lg.bltv hg)).symm
  · exact Nat.lt_of_lt_of_eq (h.lg.cs x hx g hg) (h2 g (h.lg.lg.blts hx hg)).symm
end
end Go.Proofs.YtefbioainibmaaaGreatDoor
namespace Go.Proofs.YtefbioainibmaaaGreatDoor
open Go.RowKit Go.Maps
set_option linter.unusedVariables false
set_option linter.unusedSimpArgs false

theorem entry_ar (a ix : Int) (i EN k N : Nat) (hi : a - ix - 1 = (i : Int)) (h : i < EN) (hE : EN ≤ 8) (hk : k < N) (hN : N ≤ 500000) : wrap64 (a - ix) = ((i + 1 : Nat) : Int) ∧ wrap64 (((i + 1 : Nat) : Int) - 1) = (i : Int) ∧ wrap64 (a - ix - 1) = (i : Int) ∧ wrap64 (i : Int) = (i : Int) ∧ (0 : Int) ≤ (i : Int) ∧ (i : Int) < (EN : Int) ∧ (0 : Int) ≤ (k : Int) ∧ (k : Int) < (N : Int) := by
  refine ⟨?_, ?_, ?_, ?_, by omega, by omega, by omega, by omega⟩
  · rw [IntWalk.wrap64_in _ (by omega)]; omega
  · rw [IntWalk.wrap64_in _ (by omega)]; omega
  · rw [IntWalk.wrap64_in _ (by omega)]; omega
  · rw [IntWalk.wrap64_in _ (by omega)]
theorem le_dec {a b : Int} (h : b < a) : decide (a ≤ b) = false := decide_eq_false (by omega)
theorem gt_dec {a b : Int} (h : a ≤ b) : decide (a > b) = false := decide_eq_false (by omega)
set_option maxRecDepth 100000 in
set_option maxHeartbeats 8000000 in
theorem entry_wal {w : World} {c : Nat → Nat} {B L p : Nat} {d : Ds} {tm vt : Int} {lost : Bool} {v : Value} {l : List Sv} (h : LgD w c p d B L tm vt lost v l) (hne : l ≠ []) (hs : ∀ z ∈ l, SgO z.sg) (ha : AscA (l.map Sv.sg)) (hl : l.length ≤ 500000) (a : Int) (hb : bxL (l.map Sv.sg) < a) (he : a ≤ enL (l.map Sv.sg)) (k i : Nat) (hk : hoC a (l.map Sv.sg) - 1 = k) (hkl : k < l.length) (hi : a - (l[k]).ix - 1 = (i : Int)) (hil : i < (l[k]).es.length) :
    Calls Tryz.prog 35 #[.pointer (some ⟨L, 0, none⟩), .int .i64 a] w fun e w' => e = .returned (.tuple #[.agg #[.int .i64 ((l[k]).es[i]).tm, .int .i64 ((l[k]).es[i]).kd, .string ((l[k]).es[i]).da], .bool true]) ∧ Below w.heap.size w w' := by
  obtain ⟨W0, hW0⟩ : ∃ W0, W0 = w.alloc (.cells #[.int .i64 0, .int .i64 0, .string ⟨#[]⟩] 68) := ⟨_, rfl⟩
  have k0 : Keep (fun _ => False) w W0 := by rw [hW0]; exact keep_alloc _ _ _
  have hsize : W0.heap.size = w.heap.size + 1 := by rw [hW0]; simp
  have r0 : RowIs W0 w.heap.size [.int .i64 0, .int .i64 0, .string ⟨#[]⟩] 68 := by rw [hW0]; exact srow w [.int .i64 0, .int .i64 0, .string ⟨#[]⟩] 68
  have BW : Hid (Below w.heap.size w W0) := by rw [hW0]; exact below_al (Below.refl _ _) _
  have HLT : Hid (w.heap.size < W0.heap.size) := by show _ < _; omega
  have HW0 : Hid (W0.heap.size = w.heap.size + 1) := hsize
  have LI : ∀ W, Below W0.heap.size W0 W → LogI W B L p tm vt lost v l := fun W b => (h.lg.lg.next (by rw [hW0]; exact below_al (Below.refl _ _) _ : Below w.heap.size w W0)).next b
  have RS : Hid (∀ W, Below W0.heap.size W0 W → RowIs W w.heap.size [.int .i64 0, .int .i64 0, .string ⟨#[]⟩] 68) := fun W b => r0.keep (b.keep (fun _ => False)) (fun h => h)
  obtain ⟨y0, q0, hl0⟩ : ∃ y0 r0, l = y0 :: r0 := by cases l with
    | nil => exact absurd rfl hne
    | cons y r => exact ⟨y, r, rfl⟩
  obtain ⟨l1, y, hl1⟩ := snoc_of hne
  have hy := hs y (by rw [hl1]; simp)
  have hbx : bxL (l.map Sv.sg) = y0.ix := by rw [hl0]; rfl
  have henl : enL (l.map Sv.sg) = y.ix + y.es.length := by rw [hl1]; unfold enL; simp; rfl
  have hi0 : 0 ≤ y.ix := hy.i0
  have hi1 : y.ix ≤ 1099511627776 := hy.i1
  have hies : y.es.length ≤ 8 := hy.es
  have hlp : 0 < l.length := List.length_pos_iff.2 hne
  have BA : Hid (∀ W, Below W0.heap.size W0 W → Calls Tryz.prog 26 #[.pointer (some ⟨L, 0, none⟩)] W fun e w' => e = .returned (.tuple #[.int .i64 y0.ix, .int .i64 y0.tm]) ∧ Below W.heap.size W w') := fun W b => by
    have h1 := wbase_any (LI W b) (by rw [hl0]; simp) (by omega)
    simp only [hl0, List.getElem_cons_zero] at h1
    exact h1
  have EN_ : Hid (∀ W, Below W0.heap.size W0 W → Calls Tryz.prog 20 #[.pointer (some ⟨L, 0, none⟩)] W fun e w' => e = .returned (.tuple #[.int .i64 (y.ix + y.es.length), .int .i64 (enT y.tm y.es)]) ∧ Below W.heap.size W w') := fun W b =>
    wend_any (LI W b) l1.length (by rw [hl1]; simp) (by omega) y (by rw [hl1]; simp) hi0 (by omega) (by omega)
  have HO : Hid (∀ W, Below W0.heap.size W0 W → Calls Tryz.prog 72 #[.pointer (some ⟨L, 0, none⟩), .int .i64 a] W fun e w' => e = .returned (.int .i64 (k : Int)) ∧ Below W.heap.size W w') := fun W b => by
    have := holder_any (LI W b) hne (by omega) ha a
    rw [hk] at this
    exact this
  have hx := hs _ (List.getElem_mem hkl)
  have xe : (l[k]).es.length ≤ 8 := hx.es
  have xi0 : 0 ≤ (l[k]).ix := hx.i0
  have xi1 : (l[k]).ix ≤ 1099511627776 := hx.i1
  have hsi := h.lg.lg.sg.sg _ (List.getElem_mem hkl)
  have hent := hsi.oe.ents
  obtain ⟨ea, ec, hve, hec⟩ := hent.form
  obtain ⟨pa, pc, hvp⟩ := hsi.oi.form
  obtain ⟨eb, eo, hea, hebl, c0, c1, c2⟩ := hec i hil
  subst hea
  have hda := (hx.ok _ (List.getElem_mem hil)).2.2.2.2
  have AP : Hid (∀ W, Calls Tryz.prog 73 #[.agg #[.int .i64 ((l[k]).es[i]).tm, .int .i64 ((l[k]).es[i]).kd, .string ((l[k]).es[i]).da]] W fun e w' => e = .returned (.agg #[.int .i64 ((l[k]).es[i]).tm, .int .i64 ((l[k]).es[i]).kd, .string ((l[k]).es[i]).da]) ∧ Below W.heap.size W w') := fun W => wapart_any (l[k]).es[i] W (Nat.le_trans hda (by decide))
  obtain ⟨g, off, cap, hv, hg, -, hcell⟩ := h.lg.lg.sg.at k hkl
  subst hv
  have BWW : ∀ W, Below W0.heap.size W0 W → Below w.heap.size w W := fun W b => BW.out.trans (b.mono (by omega))
  have SC : Hid (∀ W, Below W0.heap.size W0 W → W.cell? ⟨L, 3, none⟩ = some (.slice (some ⟨g, off, none⟩) l.length cap) ∧ W.cell? ⟨g, off + k * 5, none⟩ = some (.int .i64 (l[k]).n) ∧ W.cell? ⟨g, off + k * 5 + 1, none⟩ = some (.int .i64 (l[k]).ix) ∧ W.cell? ⟨g, off + k * 5 + 2, none⟩ = some (.int .i64 (l[k]).tm) ∧ W.cell? ⟨g, off + k * 5 + 3, none⟩ = some (.slice (some ⟨eb, eo, none⟩) (l[k]).es.length ec) ∧ W.cell? ⟨g, off + k * 5 + 4, none⟩ = some (.slice pa (l[k]).ps.length pc)) := fun W b => by
    have hw := BWW W b
    exact ⟨(hw.cell h.lg.lg.bx.lt).trans (h.lg.lg.bx.cellAt (o := 3) rfl), (hw.cell hg).trans (hcell 0 _ rfl), (hw.cell hg).trans (hcell 1 _ rfl), (hw.cell hg).trans (hcell 2 _ rfl), (hw.cell hg).trans (hcell 3 _ (by rw [← hve]; rfl)), (hw.cell hg).trans (hcell 4 _ (by rw [← hvp]; rfl))⟩
  have EC : Hid (∀ W, Below W0.heap.size W0 W → W.cell? ⟨eb, eo + i * 3, none⟩ = some (.int .i64 ((l[k]).es[i]).tm) ∧ W.cell? ⟨eb, eo + i * 3 + 1, none⟩ = some (.int .i64 ((l[k]).es[i]).kd) ∧ W.cell? ⟨eb, eo + i * 3 + 2, none⟩ = some (.string ((l[k]).es[i]).da)) := fun W b => by
    have hw := BWW W b
    exact ⟨(hw.cell hebl).trans c0, (hw.cell hebl).trans c1, (hw.cell hebl).trans c2⟩
  have HB := hid (Below.refl W0.heap.size W0)
  rw [hbx] at hb
  rw [henl] at he
  obtain ⟨en, hen⟩ : ∃ en, en = y.ix + (y.es.length : Int) := ⟨_, rfl⟩
  rw [← hen] at EN_ he
  have e1 : decide (a ≤ y0.ix) = false := le_dec hb
  have e2 : decide (a > en) = false := gt_dec he
  obtain ⟨q1, q2, q2', q7, q3, q4, q5, q6⟩ := entry_ar a (l[k]).ix i (l[k]).es.length k l.length hi hil xe hkl hl
  clear LI r0 k0 hsize hne hs ha hl hb he hk hi hl0 hl1 hy hbx henl hi0 hi1 hies hlp hx xe xi0 xi1 hsi hent hec hve hvp hebl c0 c1 c2 hda hg hcell BWW hen h
  generalize hx : (l[k]).es[i] = x at *
  clear hx
  generalize (l[k]).n = xn at *
  generalize (l[k]).ix = xi at *
  generalize (l[k]).tm = xt at *
  generalize (l[k]).ps.length = pn at *
  clear hil
  generalize (l[k]).es.length = EN at *
  clear hkl
  generalize l.length = N at *
  obtain ⟨et, ek, ed⟩ := x
  simp only at *
  generalize enT y.tm y.es = ent at *
  generalize y0.ix = bx0 at *
  generalize y0.tm = bt at *
  go_enter Tryz.func35, Tryz.ntmps35
  go_wp2_with fail
  rw [← hW0]
  clear hW0
  refine (BA.out _ HB.out).mono ?_
  rintro e w1 ⟨rfl, b1⟩
  have K1 := hid b1
  clear BA b1 HB
  go_wp2_with fail
  refine (EN_.out _ K1.out).mono ?_
  rintro e w2 ⟨rfl, b2⟩
  have K2 := hid (below_on K1.out b2)
  clear EN_ b2 K1
  go_wp2_with fail
  have K3 : Hid (Below W0.heap.size W0 w2.drew) := K2.out.drew
  clear K2
  refine wp_region_held_drew (S := fun W => W.cell? ⟨L, 3, none⟩ = some (.slice (some ⟨g, off, none⟩) N cap) ∧ W.cell? ⟨g, off + k * 5, none⟩ = some (.int .i64 xn) ∧ W.cell? ⟨g, off + k * 5 + 1, none⟩ = some (.int .i64 xi) ∧ W.cell? ⟨g, off + k * 5 + 2, none⟩ = some (.int .i64 xt) ∧ W.cell? ⟨g, off + k * 5 + 3, none⟩ = some (.slice (some ⟨eb, eo, none⟩) EN ec) ∧ W.cell? ⟨g, off + k * 5 + 4, none⟩ = some (.slice pa pn pc)) (by kernel_rfl) (SC.out _ K3.out) (fun hHeld => ?_)
  generalize w2.drew = V at *
  refine wpAnyH_take (i := 0) (v := ?vv1) rfl (by kernel_rfl) (by kernel_rfl) (by kernel_rfl) (fun _ _ _ h => h) (Or.inl ⟨by rfl, ?hy1⟩) (by assumption) ?rest1
  case hy1 => (intro w hSw; (try dsimp only at hSw); go_simp; first | done | with_reducible rfl)
  try simp only [Act.put, List.getElem_toArray, List.getElem_cons_succ, List.getElem_cons_zero, List.setIfInBounds_toArray, List.set_cons_zero, List.set_cons_succ]
  refine wpAnyH_take (i := 1) (v := ?vv2) rfl (by kernel_rfl) (by kernel_rfl) (by kernel_rfl) (fun _ _ _ h => h) (Or.inl ⟨by rfl, ?hy2⟩) (by assumption) ?rest2
  case hy2 => (intro w hSw; (try dsimp only at hSw); go_simp; first | done | with_reducible rfl)
  try simp only [Act.put, List.getElem_toArray, List.getElem_cons_succ, List.getElem_cons_zero, List.setIfInBounds_toArray, List.set_cons_zero, List.set_cons_succ]
  refine wpAnyH_take (i := 2) (v := ?vv3) rfl (by kernel_rfl) (by kernel_rfl) (by kernel_rfl) (fun _ _ _ h => h) (Or.inl ⟨by rfl, ?hy3⟩) (by assumption) ?rest3
  case hy3 => (intro w hSw; (try dsimp only at hSw); go_simp; first | done | with_reducible rfl)
  try simp only [Act.put, List.getElem_toArray, List.getElem_cons_succ, List.getElem_cons_zero, List.setIfInBounds_toArray, List.set_cons_zero, List.set_cons_succ]
  refine wpAnyH_take (i := 3) (v := ?vv4) rfl (by kernel_rfl) (by kernel_rfl) (by kernel_rfl) (fun _ _ _ h => h) (Or.inl ⟨by rfl, ?hy4⟩) (by assumption) ?rest4
  case hy4 => (intro w hSw; (try dsimp only at hSw); go_simp; first | done | with_reducible rfl)
  try simp only [Act.put, List.getElem_toArray, List.getElem_cons_succ, List.getElem_cons_zero, List.setIfInBounds_toArray, List.set_cons_zero, List.set_cons_succ]
  refine wpAnyH_take (i := 4) (v := ?vv5) rfl (by kernel_rfl) (by kernel_rfl) (by kernel_rfl) (fun _ _ _ h => h) (Or.inl ⟨by rfl, ?hy5⟩) (by assumption) ?rest5
  case hy5 => (intro w hSw; (try dsimp only at hSw); go_simp; first | done | with_reducible rfl)
  try simp only [Act.put, List.getElem_toArray, List.getElem_cons_succ, List.getElem_cons_zero, List.setIfInBounds_toArray, List.set_cons_zero, List.set_cons_succ]
  refine wpAnyH_take (i := 5) (v := ?vv6) rfl (by kernel_rfl) (by kernel_rfl) (by kernel_rfl) (fun _ _ _ h => h) (Or.inl ⟨by rfl, ?hy6⟩) (by assumption) ?rest6
  case hy6 => (intro w hSw; (try dsimp only at hSw); go_simp; first | done | with_reducible rfl)
  try simp only [Act.put, List.getElem_toArray, List.getElem_cons_succ, List.getElem_cons_zero, List.setIfInBounds_toArray, List.set_cons_zero, List.set_cons_succ]
  refine wpAnyH_ready (rs := [6, 9]) (by kernel_rfl) (by simp) ?_
  refine AllReadyH.cons rfl (fun K hK => ?_) (AllReadyH.cons rfl (fun K hK => ?_) AllReadyH.nil)
  · go_simp
    refine (HO.out _ K3.out).mono ?_
    rintro qq w5 ⟨rfl, bb⟩
    have Bw5 := hid (below_on K3.out bb)
    clear HO bb hHeld
    go_wp2_with fail
    refine hK.out _ _ (SC.out _ Bw5.out) (fun hHeld => ?_)
    clear hK K
    try simp only [Act.put, List.getElem_toArray, List.getElem_cons_succ, List.getElem_cons_zero, List.setIfInBounds_toArray, List.set_cons_zero, List.set_cons_succ]
    refine wpAnyH_take (i := 7) (v := ?vv7) rfl (by kernel_rfl) (by kernel_rfl) (by kernel_rfl) (fun _ _ _ h => h) (Or.inl ⟨by rfl, ?hy7⟩) (by assumption) ?rest7
    case hy7 => (intro w hSw; (try dsimp only at hSw); go_simp; first | done | with_reducible rfl)
    try simp only [Act.put, List.getElem_toArray, List.getElem_cons_succ, List.getElem_cons_zero, List.setIfInBounds_toArray, List.set_cons_zero, List.set_cons_succ]
    refine wpAnyH_take (i := 8) (v := ?vv8) rfl (by kernel_rfl) (by kernel_rfl) (by kernel_rfl) (fun _ _ _ h => h) (Or.inl ⟨by rfl, ?hy8⟩) (by assumption) ?rest8
    case hy8 => (intro w hSw; (try dsimp only at hSw); go_simp; first | done | with_reducible rfl)
    try simp only [Act.put, List.getElem_toArray, List.getElem_cons_succ, List.getElem_cons_zero, List.setIfInBounds_toArray, List.set_cons_zero, List.set_cons_succ]
    refine wpAnyH_ready (rs := [9]) (by kernel_rfl) (by simp) ?_
    refine AllReadyH.cons rfl (fun K hK => ?_) AllReadyH.nil
    go_simp
    have BA := hid (below_al Bw5.out (.cells #[.int .i64 0, .int .i64 0, .int .i64 0, .slice none 0 0, .slice none 0 0] 126))
    have RA := hid (srow w5 [.int .i64 0, .int .i64 0, .int .i64 0, .slice none 0 0, .slice none 0 0] 126)
    have LA : Hid (W0.heap.size ≤ w5.heap.size) := Bw5.out.size
    refine hK.out _ _ (SC.out _ BA.out) (fun hHeld => ?_)
    clear hK K
    try simp only [Act.put, List.getElem_toArray, List.getElem_cons_succ, List.getElem_cons_zero, List.setIfInBounds_toArray, List.set_cons_zero, List.set_cons_succ]
    have RA2 := RA
    have BU := BA
    clear RA BA
    have RB := hid (srow w5 [.int .i64 xn, .int .i64 xi, .int .i64 xt, .slice (some ⟨eb, eo, none⟩) EN ec, .slice pa pn pc] 126)
    have BB := hid (below_al Bw5.out (.cells #[.int .i64 xn, .int .i64 xi, .int .i64 xt, .slice (some ⟨eb, eo, none⟩) EN ec, .slice pa pn pc] 126))
    clear RA2 BU
    refine wpAnyH_ready (rs := [10]) (by kernel_rfl) (by simp) ?_
    refine AllReadyH.cons rfl (fun K hK => ?_) AllReadyH.nil
    go_simp
    refine hK.out _ _ (SC.out _ BB.out) (fun hHeld => ?_)
    clear hK K
    refine wpAnyH_done (by kernel_rfl) ?_ _
    clear hHeld SC
    generalize w5.alloc (.cells #[.int .i64 xn, .int .i64 xi, .int .i64 xt, .slice (some ⟨eb, eo, none⟩) EN ec, .slice pa pn pc] 126) = U2 at *
    generalize w5.heap.size = bx at *
    have y1 := RB.out.cellAt (o := 1) rfl
    have y3 := RB.out.cellAt (o := 3) rfl
    obtain ⟨e0, e1, e2⟩ := EC.out _ BB.out
    have A1 := hid (AP.out U2)
    go_wp2_with fail
    refine A1.out.mono ?_
    rintro qq U3 ⟨rfl, bb⟩
    have B3 := hid (below_on BB.out bb)
    have R3 := RS.out _ B3.out
    have d0 := R3.cellAt (o := 0) rfl
    have d1 := R3.cellAt (o := 1) rfl
    have d2 := R3.cellAt (o := 2) rfl
    have h0 : U3.frozen? ⟨w.heap.size, 0, none⟩ = false := R3.frozen
    have h1 : U3.frozen? ⟨w.heap.size, 1, none⟩ = false := R3.frozen
    have h2 : U3.frozen? ⟨w.heap.size, 2, none⟩ = false := R3.frozen
    have FR := hid (((R3.set 0 (.int .i64 et)).set 1 (.int .i64 ek)).set 2 (.string ed))
    have BF0 := hid (BW.out.trans (B3.out.mono (by have := HW0.out; omega)))
    have BF := hid (BF0.out.trans (keep_below (((keep_setCell U3 w.heap.size 0 (.int .i64 et)).trans (keep_setCell _ _ 1 (.int .i64 ek))).trans (keep_setCell _ _ 2 (.string ed))) (fun j hj e => by omega) BF0.out.size))
    clear A1 AP bb R3 BB EC RB y1 y3 e0 e1 e2 B3 BF0
    go_wp2
    exact bodyPost_ret (ret_ctw (p := 4) (u := 5) rfl _ _ w.heap.size #[.int .i64 et, .int .i64 ek, .string ed] (.bool true) rfl rfl (run_loadVar_row _ _ _ _ _ _ _ FR.out Tryz.underlying68 rfl (by kernel_rfl))) rfl ⟨rfl, BF.out⟩
  · go_simp
    have BA := hid (below_al K3.out (.cells #[.int .i64 0, .int .i64 0, .int .i64 0, .slice none 0 0, .slice none 0 0] 126))
    have RA := hid (srow V [.int .i64 0, .int .i64 0, .int .i64 0, .slice none 0 0, .slice none 0 0] 126)
    have LA : Hid (W0.heap.size ≤ V.heap.size) := K3.out.size
    refine hK.out _ _ (SC.out _ BA.out) (fun hHeld => ?_)
    clear hK K
    try simp only [Act.put, List.getElem_toArray, List.getElem_cons_succ, List.getElem_cons_zero, List.setIfInBounds_toArray, List.set_cons_zero, List.set_cons_succ]
    refine wpAnyH_ready (rs := [6]) (by kernel_rfl) (by simp) ?_
    refine AllReadyH.cons rfl (fun K hK => ?_) AllReadyH.nil
    go_simp
    refine (HO.out _ BA.out).mono ?_
    rintro qq w5 ⟨rfl, bb⟩
    have Bw5 := hid (below_on BA.out bb)
    have bq5 := hid bb
    clear HO bb hHeld
    go_wp2_with fail
    refine hK.out _ _ (SC.out _ Bw5.out) (fun hHeld => ?_)
    clear hK K
    try simp only [Act.put, List.getElem_toArray, List.getElem_cons_succ, List.getElem_cons_zero, List.setIfInBounds_toArray, List.set_cons_zero, List.set_cons_succ]
    refine wpAnyH_take (i := 7) (v := ?vv9) rfl (by kernel_rfl) (by kernel_rfl) (by kernel_rfl) (fun _ _ _ h => h) (Or.inl ⟨by rfl, ?hy9⟩) (by assumption) ?rest9
    case hy9 => (intro w hSw; (try dsimp only at hSw); go_simp; first | done | with_reducible rfl)
    try simp only [Act.put, List.getElem_toArray, List.getElem_cons_succ, List.getElem_cons_zero, List.setIfInBounds_toArray, List.set_cons_zero, List.set_cons_succ]
    refine wpAnyH_take (i := 8) (v := ?vv10) rfl (by kernel_rfl) (by kernel_rfl) (by kernel_rfl) (fun _ _ _ h => h) (Or.inl ⟨by rfl, ?hy10⟩) (by assumption) ?rest10
    case hy10 => (intro w hSw; (try dsimp only at hSw); go_simp; first | done | with_reducible rfl)
    try simp only [Act.put, List.getElem_toArray, List.getElem_cons_succ, List.getElem_cons_zero, List.setIfInBounds_toArray, List.set_cons_zero, List.set_cons_succ]
    have RA2 := hid (RA.out.keep (bq5.out.keep (fun _ => False)) (fun h => h))
    have BU := Bw5
    clear RA BA Bw5 bq5
    have f0 : (w5).frozen? ⟨V.heap.size, 0, none⟩ = false := RA2.out.frozen
    have f1 : (w5).frozen? ⟨V.heap.size, 1, none⟩ = false := RA2.out.frozen
    have f2 : (w5).frozen? ⟨V.heap.size, 2, none⟩ = false := RA2.out.frozen
    have f3 : (w5).frozen? ⟨V.heap.size, 3, none⟩ = false := RA2.out.frozen
    have f4 : (w5).frozen? ⟨V.heap.size, 4, none⟩ = false := RA2.out.frozen
    have g0 := RA2.out.cellAt (o := 0) rfl
    have g1 := RA2.out.cellAt (o := 1) rfl
    have g2 := RA2.out.cellAt (o := 2) rfl
    have g3 := RA2.out.cellAt (o := 3) rfl
    have g4 := RA2.out.cellAt (o := 4) rfl
    have RB := hid (((((RA2.out.set 0 (.int .i64 xn)).set 1 (.int .i64 xi)).set 2 (.int .i64 xt)).set 3 (.slice (some ⟨eb, eo, none⟩) EN ec)).set 4 (.slice pa pn pc))
    have KB := hid (((((keep_setCell (w5) (V.heap.size) 0 (.int .i64 xn)).trans (keep_setCell _ _ 1 (.int .i64 xi))).trans (keep_setCell _ _ 2 (.int .i64 xt))).trans (keep_setCell _ _ 3 (.slice (some ⟨eb, eo, none⟩) EN ec))).trans (keep_setCell _ _ 4 (.slice pa pn pc)))
    have BB := hid (BU.out.trans (keep_below KB.out (fun j hj e => by have := LA.out; omega) BU.out.size))
    clear KB RA2 BU
    refine wpAnyH_ready (rs := [10]) (by kernel_rfl) (by simp) ?_
    refine AllReadyH.cons rfl (fun K hK => ?_) AllReadyH.nil
    go_simp
    refine hK.out _ _ (SC.out _ BB.out) (fun hHeld => ?_)
    clear hK K
    refine wpAnyH_done (by kernel_rfl) ?_ _
    clear hHeld SC f0 f1 f2 f3 f4 g0 g1 g2 g3 g4
    generalize (((((w5).setCell ⟨V.heap.size, 0, none⟩ (.int .i64 xn)).setCell ⟨V.heap.size, 1, none⟩ (.int .i64 xi)).setCell ⟨V.heap.size, 2, none⟩ (.int .i64 xt)).setCell ⟨V.heap.size, 3, none⟩ (.slice (some ⟨eb, eo, none⟩) EN ec)).setCell ⟨V.heap.size, 4, none⟩ (.slice pa pn pc) = U2 at *
    generalize V.heap.size = bx at *
    have y1 := RB.out.cellAt (o := 1) rfl
    have y3 := RB.out.cellAt (o := 3) rfl
    obtain ⟨e0, e1, e2⟩ := EC.out _ BB.out
    have A1 := hid (AP.out U2)
    go_wp2_with fail
    refine A1.out.mono ?_
    rintro qq U3 ⟨rfl, bb⟩
    have B3 := hid (below_on BB.out bb)
    have R3 := RS.out _ B3.out
    have d0 := R3.cellAt (o := 0) rfl
    have d1 := R3.cellAt (o := 1) rfl
    have d2 := R3.cellAt (o := 2) rfl
    have h0 : U3.frozen? ⟨w.heap.size, 0, none⟩ = false := R3.frozen
    have h1 : U3.frozen? ⟨w.heap.size, 1, none⟩ = false := R3.frozen
    have h2 : U3.frozen? ⟨w.heap.size, 2, none⟩ = false := R3.frozen
    have FR := hid (((R3.set 0 (.int .i64 et)).set 1 (.int .i64 ek)).set 2 (.string ed))
    have BF0 := hid (BW.out.trans (B3.out.mono (by have := HW0.out; omega)))
    have BF := hid (BF0.out.trans (keep_below (((keep_setCell U3 w.heap.size 0 (.int .i64 et)).trans (keep_setCell _ _ 1 (.int .i64 ek))).trans (keep_setCell _ _ 2 (.string ed))) (fun j hj e => by omega) BF0.out.size))
    clear A1 AP bb R3 BB EC RB y1 y3 e0 e1 e2 B3 BF0
    go_wp2
    exact bodyPost_ret (ret_ctw (p := 4) (u := 5) rfl _ _ w.heap.size #[.int .i64 et, .int .i64 ek, .string ed] (.bool true) rfl rfl (run_loadVar_row _ _ _ _ _ _ _ FR.out Tryz.underlying68 rfl (by kernel_rfl))) rfl ⟨rfl, BF.out⟩
end Go.Proofs.YtefbioainibmaaaGreatDoor
namespace Go.Proofs.YtefbioainibmaaaGreatDoor
open Go.RowKit Go.Maps
set_option linter.unusedVariables false
set_option linter.unusedSimpArgs false

def enA : En := ⟨1, 0, ⟨#[97]⟩⟩
def fbA : Bs := [0, 0, 0, 2, 178, 70, 117, 205, 0, 0]
def fbB : Bs := [0, 0, 0, 2, 178, 70, 117, 205, 0, 0, 0, 0, 0, 4, 11, 176, 126, 67, 1, 0, 1, 97]
def fbH : Bs := [0, 0, 0, 2, 0, 98, 119, 180, 3, 3]
def w1B : Bs := [119, 46, 49]
def dA5 : Ds := ⟨[(w1B, fbA)], [], 1, [], false, 0, false⟩
def dB5 : Ds := ⟨[(w1B, fbB)], [], 2, [], false, 0, false⟩
def dD5 : Ds := ⟨[(hrd, fbH), (w1B, fbB)], [], 4, [], false, 0, false⟩
def sg0 : Sg := ⟨1, 0, 0, [], [10]⟩
def sg1 : Sg := ⟨1, 0, 0, [enA], [10, 22]⟩
theorem op5 : opW d0 = ⟨dA5, 0, -1, [sg0], 0⟩ := by kernel_rfl
theorem ap5 : apS false 1 dA5 [sg0] [enA] = ((dB5, [sg1], 0), false) := by kernel_rfl
theorem sh5 : shS false 3 2 dB5 = ((dD5, 0), false) := by kernel_rfl
theorem fa5 : failD dD5 0 0 = { dD5 with dn := true } := by kernel_rfl
theorem op5b : opW dD5 = ⟨dD5, 3, 2, [sg1], 0⟩ := by kernel_rfl
theorem lyok5 : LyOk dB5 hnw hrd (hdB 3 3) := by
  refine ⟨?_, ?_, ?_, ?_, ?_, ?_⟩
  · exact of_decide_eq_true (by kernel_rfl)
  · exact of_decide_eq_true (by kernel_rfl)
  · exact of_decide_eq_true (by kernel_rfl)
  · exact of_decide_eq_true (by kernel_rfl)
  · exact of_decide_eq_true (by kernel_rfl)
  · exact of_decide_eq_true (by kernel_rfl)
theorem pi5 (l : List (Bs × Bs)) (n k B : Nat) (hs : Srt l) (hn : ∀ x ∈ l, nameOk x.1 = true) (hw : (⟨l, [], n, [], false, 0, false⟩ : Ds).wt + l.length ≤ B) (hk : n ≤ k) : PI ⟨l, [], n, [], false, 0, false⟩ k B :=
  ⟨hs, fun i h => by simp at h, fun i h => by simp at h, hn, fun ch h => by simp at h, by simpa using hw, hk⟩
theorem rdz5 (n : Bs) : (rdD dD5 n).1.length ≤ 1000000000 := by
  by_cases e1 : n = hrd
  · subst e1; exact of_decide_eq_true (by kernel_rfl)
  · by_cases e2 : n = w1B
    · subst e2; exact of_decide_eq_true (by kernel_rfl)
    · simp [rdD, dD5, Ds.now, replay, kget, Ne.symm e1, Ne.symm e2]
      split <;> simp
theorem srtA : Srt [(w1B, fbA)] := List.pairwise_singleton _ _
theorem srtB : Srt [(hrd, fbH), (w1B, fbB)] := .cons (fun y hy => by simp at hy; subst hy; kernel_rfl) (List.pairwise_singleton _ _)
theorem sg1_ok : SgO sg1 := by
  refine ⟨by decide, by decide, by decide, by decide, by decide, rfl, by decide, by decide, fun x hx => ?_, fun i z hz => ?_⟩
  · simp [sg1] at hx; subst hx; exact ⟨by decide, by decide, by decide, by decide, by decide⟩
  · match i, hz with
    | 0, hz => simp [sg1] at hz; omega
    | 1, hz => simp [sg1] at hz; omega
    | i + 2, hz => simp [sg1] at hz
theorem sg0_ok : SgO sg0 := by
  refine ⟨by decide, by decide, by decide, by decide, by decide, rfl, by decide, by decide, fun x hx => ?_, fun i z hz => ?_⟩
  · simp [sg0] at hx
  · match i, hz with
    | 0, hz => simp [sg0] at hz; omega
    | i + 1, hz => simp [sg0] at hz
theorem asc1 (y : Sg) : AscA [y] := fun i j h1 h2 => by
  simp at h2
  obtain rfl : i = 0 := by omega
  subst h2
  exact Int.le_refl _
theorem c0_78 (p j : Nat) : c78 (c0 p) j = c0 p j := by
  unfold c78 c0
  by_cases h : j = p
  · simp [h]
  · simp [h]
set_option maxRecDepth 100000 in
set_option maxHeartbeats 8000000 in
theorem awake5 (w : World) (hG : GV w) : Calls Tryz.prog 11 #[] w fun e w' => e = .returned (.bool true) ∧ Below w.heap.size w w' := by
  have NW := hid (new_any w)
  obtain ⟨p, hp⟩ : ∃ p, p = w.heap.size := ⟨_, rfl⟩
  have HP := hid hp
  rw [← hp] at NW
  have GW : Hid (∀ W, Keep (fun _ => False) w W → GV W ∧ ∀ g, IsGV g → c0 p g = 7) := fun W k => by
    have h1 := hG.keepS k (fun _ _ h => h)
    refine ⟨h1.1, fun g hg => ?_⟩
    have := h1.2 g hg
    unfold c0
    rw [if_neg (by omega)]
  have O1 : Hid (∀ W, DiskIs W (c0 p) p d0 → Keep (fun _ => False) w W → Calls Tryz.prog 10 #[.pointer (some ⟨p, 0, none⟩)] W fun e w' => ∃ L, e = .returned (.tuple #[.pointer (some ⟨L, 0, none⟩), .int .i64 0]) ∧ ∃ c2 v l, LgD w' c2 p dA5 W.heap.size L 0 (-1) false v l ∧ l.map Sv.sg = [sg0] ∧ (∀ j, j < W.heap.size → c2 j = c0 p j) ∧ Keep (fun j => c0 p j < 6) W w') := fun W D k => by
    have h1 := wopen_up p (c0 p) d0 W D rfl (by decide) (by intro y hy; simp [d0, Ds.now, replay] at hy) (by intro n; simp [rdD, d0, Ds.now, replay, kget]; split <;> simp) (GW.out W k).1 (GW.out W k).2 (K := 10) (M := 10) (pi5 [] 0 10 10 (by exact srt_nil) (by simp) (by decide) (by decide)) (by decide) (by decide)
    rw [op5] at h1
    refine h1.mono ?_
    rintro e w' ⟨L, he, hL, h2⟩
    obtain ⟨-, c2, v, l, h3, h4, h5⟩ := h2 rfl
    exact ⟨L, he, c2, v, l, h3, h4, fun j hj => (h5 j hj).trans (c0_78 p j), hL.2⟩
  have A1 : Hid (∀ W c B L v l, LgD W c p dA5 B L 0 (-1) false v l → l.map Sv.sg = [sg0] → Calls Tryz.prog 21 #[.pointer (some ⟨L, 0, none⟩), .int .i64 1, .slice (some ⟨W.heap.size, 0, none⟩) 1 1] (W.alloc (.cells #[.int .i64 1, .int .i64 0, .string ⟨#[97]⟩] 68)) fun e w' => e = .returned (.int .i64 0) ∧ LgE W c p dB5 B L 0 (-1) false [sg1] w') := fun W c B L v l h hls => by
    obtain ⟨c7, g7, s7, n7⟩ := h.fresh7 (keep_alloc (fun _ => False) W (.cells #[.int .i64 1, .int .i64 0, .string ⟨#[97]⟩] 68))
    have r := srow W [.int .i64 1, .int .i64 0, .string ⟨#[97]⟩] 68
    have hq : EnS (W.alloc (.cells #[.int .i64 1, .int .i64 0, .string ⟨#[97]⟩] 68)) c7 (.slice (some ⟨W.heap.size, 0, none⟩) 1 1) [enA] := by
      refine ⟨.inr ⟨W.heap.size, 0, 1, rfl, by decide, by simp, fun j u hu => ?_⟩, fun b hb _ => ?_⟩
      · rw [Nat.zero_add]; exact r.cellAt hu
      · simp [Value.ownBlock] at hb; subst hb; exact n7 _ (Nat.le_refl _)
    have hlen : l.length = 1 := by rw [← List.length_map (f := Sv.sg), hls]; rfl
    have h1 := append_wal g7 (by intro e; rw [e] at hlen; cases hlen) (fun z hz => by have : z.sg ∈ l.map Sv.sg := List.mem_map_of_mem hz; rw [hls] at this; simp at this; rw [this]; exact sg0_ok) 1 _ [enA] hq (by rw [hlen]; decide) (K := 10) (M := 1000) (pi5 [(w1B, fbA)] 1 10 1000 srtA (by decide) (by decide) (by decide)) (by decide) (by decide)
    rw [hls, ap5] at h1
    exact h1.mono fun e w' ⟨he, hE⟩ => ⟨he, hE.trans s7⟩
  have S1 : Hid (∀ B L W c v l, LgD W c p dB5 B L 0 (-1) false v l → l.map Sv.sg = [sg1] → Calls Tryz.prog 36 #[.pointer (some ⟨L, 0, none⟩), .int .i64 3, .int .i64 2] W fun e w' => e = .returned (.int .i64 0) ∧ LgE W c p dD5 B L 3 2 false [sg1] w') := fun B L W c v l h hls => by
    have h1 := sethard_wal h 3 2 (fun _ _ => lyok5)
    rw [hls, sh5] at h1
    exact h1
  have F1 : Hid (∀ W c, DiskIs W c p dD5 → Calls Tryz.prog 23 #[.pointer (some ⟨p, 0, none⟩), .int .i64 0, .int .i64 0] W fun e w' => e = .returned (.tuple #[]) ∧ Left W c p { dD5 with dn := true } w') := fun W c hD => by
    have := fail_any p c dD5 0 0 W hD (of_decide_eq_true (by kernel_rfl))
    rw [fa5] at this
    exact this
  have U1 : Hid (∀ W c, DiskIs W c p { dD5 with dn := true } → Calls Tryz.prog 24 #[.pointer (some ⟨p, 0, none⟩)] W fun e w' => e = .returned (.bool true) ∧ Left W c p dD5 w') := fun W c hD => up_any p c { dD5 with dn := true } W hD
  have O2 : Hid (∀ W c, DiskIs W c p dD5 → GV W → (∀ g, IsGV g → c g = 7) → Calls Tryz.prog 10 #[.pointer (some ⟨p, 0, none⟩)] W fun e w' => ∃ L, e = .returned (.tuple #[.pointer (some ⟨L, 0, none⟩), .int .i64 0]) ∧ (∃ c2 v l, LgD w' c2 p dD5 W.heap.size L 3 2 false v l ∧ l.map Sv.sg = [sg1]) ∧ Keep (fun j => c j < 6) W w') := fun W c D g1 g2 => by
    have h1 := wopen_up p c dD5 W D rfl (by decide) (by decide) rdz5 g1 g2 (K := 10) (M := 1000) (pi5 [(hrd, fbH), (w1B, fbB)] 4 10 1000 srtB (by decide) (by decide) (by decide)) (by decide) (by decide)
    rw [op5b] at h1
    refine h1.mono ?_
    rintro e w' ⟨L, he, hL, h2⟩
    obtain ⟨-, c2, v, l, h3, h4, h5⟩ := h2 rfl
    exact ⟨L, he, ⟨c2, v, l, h3, h4⟩, hL.2⟩
  have E2 : Hid (∀ B L W c v l, LgD W c p dD5 B L 3 2 false v l → l.map Sv.sg = [sg1] → Calls Tryz.prog 35 #[.pointer (some ⟨L, 0, none⟩), .int .i64 1] W fun e w' => e = .returned (.tuple #[.agg #[.int .i64 1, .int .i64 0, .string ⟨#[97]⟩], .bool true]) ∧ Below W.heap.size W w') := fun B L W c v l h hls => by
    obtain ⟨x, rfl⟩ : ∃ x, l = [x] := by
      have hlen : l.length = 1 := by rw [← List.length_map (f := Sv.sg), hls]; rfl
      exact List.length_eq_one_iff.1 hlen
    have hx : x.sg = sg1 := by simpa using hls
    have e1 : x.ix = 0 := by have := congrArg Sg.ix hx; exact this
    have e2 : x.es = [enA] := by have := congrArg Sg.es hx; exact this
    have h1 := entry_wal h (by simp) (fun z hz => by simp at hz; rw [hz, hx]; exact sg1_ok) (by rw [hls]; exact asc1 _) (by simp) 1 (by rw [hls]; decide) (by rw [hls]; decide) 0 0 (by rw [hls]; kernel_rfl) (by simp) (by simp [e1]) (by simp [e2])
    simp only [List.getElem_cons_zero, e2] at h1
    exact h1
  have H2 : Hid (∀ B L W c v l, LgD W c p dD5 B L 3 2 false v l → Calls Tryz.prog 34 #[.pointer (some ⟨L, 0, none⟩)] W fun e w' => e = .returned (.tuple #[.int .i64 3, .int .i64 2]) ∧ Below W.heap.size W w') := fun B L W c v l h => whard_any h.lg.lg
  clear hp hG
  go_enter Tryz.func11, Tryz.ntmps11
  go_wp2_with fail
  refine NW.out.mono ?_
  rintro e w1 ⟨rfl, hDA, hkA⟩
  have KA := hid hkA
  have O1b := hid (O1.out w1 hDA hkA)
  clear NW O1 hDA hkA GW
  go_wp2_with fail
  refine O1b.out.mono ?_
  rintro e w2 ⟨L, rfl, c2, v, l, h2, hls, hc2, hk2⟩
  have KB : Hid (Keep (fun j => w.heap.size ≤ j) w w2) := (KA.out.mono (fun _ _ h => h.elim)).trans (hk2.mono (fun j hj h => by
    have h' : (if j = p then 0 else 7) < 6 := h
    by_cases hjp : j = p
    · have := HP.out; omega
    · rw [if_neg hjp] at h'; omega))
  have HC2 : Hid (∀ j, j < w.heap.size → c2 j = 7) := fun j hj => by
    rw [hc2 j (Nat.lt_of_lt_of_le hj KA.out.size)]
    exact if_neg (by have := HP.out; omega)
  have A1b := hid (A1.out w2 c2 _ L v l h2 hls)
  clear O1b A1 h2 hls hc2 hk2 KA
  generalize w1.heap.size = B1 at *
  go_wp2_with fail
  refine A1b.out.mono ?_
  rintro e w3 ⟨rfl, hE⟩
  have S1b := hid (stepG hE (S1.out B1 L))
  clear A1b S1 hE
  go_wp2_with fail
  refine S1b.out.mono ?_
  rintro e w4 ⟨rfl, hE⟩
  have F1b := hid (stepGD hE F1.out)
  clear S1b F1 hE
  go_wp2_with fail
  refine F1b.out.mono ?_
  rintro e w5 ⟨rfl, hE⟩
  have U1b := hid (stepGD hE U1.out)
  clear F1b U1 hE
  go_wp2_with fail
  refine U1b.out.mono ?_
  rintro e w6 ⟨rfl, c6, v6, l6, h6, hls6, s6⟩
  have K6 : Hid (Keep (fun j => w.heap.size ≤ j) w w6) := KB.out.trans (s6.kp.mono (fun j hj h => by
    rcases Nat.lt_or_ge j w.heap.size with hlt | hge
    · have := HC2.out j hlt; omega
    · exact hge))
  have HC6 : Hid (∀ j, j < w.heap.size → c6 j = 7) := fun j hj => (s6.co j (Nat.lt_of_lt_of_le hj KB.out.size)).trans (HC2.out j hj)
  have O2b := hid (O2.out w6 c6 h6.lg.dk h6.gv h6.gc)
  clear U1b O2 h6 hls6 s6 KB HC2
  go_wp2_with fail
  refine O2b.out.mono ?_
  rintro e w7 ⟨L7, rfl, ⟨c7, v7, l7, h7, hls7⟩, hk7⟩
  have K7 : Hid (Keep (fun j => w.heap.size ≤ j) w w7) := K6.out.trans (hk7.mono (fun j hj h => by
    rcases Nat.lt_or_ge j w.heap.size with hlt | hge
    · have := HC6.out j hlt; omega
    · exact hge))
  have E2b := hid (E2.out _ L7 w7 c7 v7 l7 h7 hls7)
  have H2b : Hid (∀ W, Below w7.heap.size w7 W → Calls Tryz.prog 34 #[.pointer (some ⟨L7, 0, none⟩)] W fun e w' => e = .returned (.tuple #[.int .i64 3, .int .i64 2]) ∧ Below W.heap.size W w') := fun W hW => by
    obtain ⟨c8, h8, -, -⟩ := h7.fresh (hW.keep _)
    exact H2.out _ L7 W c8 v7 l7 h8
  clear O2b E2 H2 h7 hls7 hk7 K6 HC6
  go_wp2_with fail
  refine E2b.out.mono ?_
  rintro e w8 ⟨rfl, b8⟩
  have B8 := hid (below_al b8 (.cells #[.int .i64 1, .int .i64 0, .string ⟨#[97]⟩] 68))
  have R8 := hid (srow w8 [.int .i64 1, .int .i64 0, .string ⟨#[97]⟩] 68)
  have H2c := hid (H2b.out _ B8.out)
  clear E2b b8 H2b
  go_wp2_with fail
  refine H2c.out.mono ?_
  rintro e w9 ⟨rfl, b9⟩
  have y2 := (R8.out.keep (b9.keep (fun _ => False)) (fun h => h)).cellAt (o := 2) rfl
  have K9 := hid (K7.out.trans ((below_on B8.out b9).keep (fun j => w.heap.size ≤ j)))
  clear H2c b9 R8 B8 K7
  go_wp2
  go_ret
  exact ⟨rfl, keep_below K9.out (fun j hj h => by omega) (Nat.le_refl _)⟩
end Go.Proofs.YtefbioainibmaaaGreatDoor
namespace Go.Proofs.YtefbioainibmaaaGreatDoor
open Go.RowKit Go.Maps
set_option linter.unusedVariables false
set_option linter.unusedSimpArgs false

theorem fa0 : failD d0 0 0 = { d0 with dn := true } := by kernel_rfl
set_option maxRecDepth 100000 in
set_option maxHeartbeats 8000000 in
theorem walNil_walk0 (n : Int) (ad : Option Addr) (len cap : Nat) (w : World) (hG : GV w) : Calls Tryz.prog 6 #[.int .i64 n, .slice ad len cap] w fun e w' => e = .returned (.bool true) ∧ Below w.heap.size w w' := by
  have NW := hid (new_any w)
  obtain ⟨p, hp⟩ : ∃ p, p = w.heap.size := ⟨_, rfl⟩
  have HP := hid hp
  rw [← hp] at NW
  have F1 : Hid (∀ W c, DiskIs W c p d0 → Calls Tryz.prog 23 #[.pointer (some ⟨p, 0, none⟩), .int .i64 0, .int .i64 0] W fun e w' => e = .returned (.tuple #[]) ∧ Left W c p { d0 with dn := true } w') := fun W c hD => by
    have := fail_any p c d0 0 0 W hD (of_decide_eq_true (by kernel_rfl))
    rw [fa0] at this
    exact this
  have AW : Hid (∀ W, Keep (fun j => w.heap.size ≤ j) w W → Calls Tryz.prog 11 #[] W fun e w' => e = .returned (.bool true) ∧ Below W.heap.size W w') := fun W k => by
    have h1 := hG.keepS (Keep.refl (fun _ => False) w) (fun _ _ h => h)
    exact awake5 W (hG.keepS k (fun g hg e => by have := h1.2 g hg; omega)).1
  have O0 := hid (fun W => wopen_nil W)
  have B0 := hid (fun W => wbase_nil W)
  have E0 := hid (fun W => wend_nil W)
  have H0 := hid (fun W => whard_nil W)
  have N0 := hid (fun W => wentry_nil n W)
  have R0 := hid (fun W => wfrom_nil n W)
  have S0 := hid (fun W => wsethard_nil n n W)
  have A0 := hid (fun W => wappend_nil n (.slice ad len cap) W)
  have C0 := hid (fun W => wcompact_nil n W)
  have T0 := hid (fun W => wreset_nil n n W)
  clear hp hG
  go_enter Tryz.func6, Tryz.ntmps6
  go_wp2_with fail
  refine (O0.out _).mono ?_
  rintro e w0 ⟨rfl, rfl⟩
  clear O0
  go_wp2_with fail
  refine NW.out.mono ?_
  rintro e w1 ⟨rfl, hDA, hkA⟩
  have KA := hid hkA
  have F1b := hid (F1.out w1 _ hDA)
  clear NW F1 hDA hkA
  go_wp2_with fail
  refine F1b.out.mono ?_
  rintro e w2 ⟨rfl, ⟨c2, hD2, -⟩, hk2⟩
  have K2 : Hid (Keep (fun j => w0.heap.size ≤ j) w0 w2) := (KA.out.mono (fun _ _ h => h.elim)).trans (hk2.mono (fun j hj h => by
    have h' : (if j = p then 0 else 7) < 6 := h
    by_cases hjp : j = p
    · have := HP.out; omega
    · rw [if_neg hjp] at h'; omega))
  have D2 := hid (wopen_down p c2 _ w2 hD2 rfl)
  clear F1b hD2 hk2 KA
  go_wp2_with fail
  refine D2.out.mono ?_
  rintro e w3 ⟨rfl, rfl⟩
  clear D2
  go_wp2_with fail
  refine (B0.out _).mono ?_
  rintro e w4 ⟨rfl, rfl⟩
  clear B0
  go_wp2_with fail
  refine (E0.out _).mono ?_
  rintro e w5 ⟨rfl, rfl⟩
  clear E0
  go_wp2_with fail
  refine (H0.out _).mono ?_
  rintro e w6 ⟨rfl, rfl⟩
  clear H0
  go_wp2_with fail
  refine (N0.out _).mono ?_
  rintro e w7 ⟨rfl, b7⟩
  have K7 := hid (K2.out.trans ((below_al b7 (.cells #[.int .i64 0, .int .i64 0, .string ⟨#[]⟩] 68)).keep (fun j => w0.heap.size ≤ j)))
  have AW2 := hid (AW.out _ K7.out)
  clear N0 b7 K2 AW
  go_wp2_with fail
  refine AW2.out.mono ?_
  rintro e w8 ⟨rfl, b8⟩
  have K8 := hid (K7.out.trans (b8.keep (fun j => w0.heap.size ≤ j)))
  clear AW2 b8 K7
  go_wp2_with fail
  refine (R0.out _).mono ?_
  rintro e w9 ⟨rfl, rfl⟩
  clear R0
  go_wp2_with fail
  refine (S0.out _).mono ?_
  rintro e w10 ⟨rfl, rfl⟩
  clear S0
  go_wp2_with fail
  refine (A0.out _).mono ?_
  rintro e w11 ⟨rfl, rfl⟩
  clear A0
  go_wp2_with fail
  refine (C0.out _).mono ?_
  rintro e w12 ⟨rfl, b12⟩
  have K12 := hid (K8.out.trans (b12.keep (fun j => w0.heap.size ≤ j)))
  clear C0 b12 K8
  go_wp2_with fail
  refine (T0.out _).mono ?_
  rintro e w13 ⟨rfl, rfl⟩
  clear T0
  go_wp2
  go_ret
  exact ⟨rfl, keep_below K12.out (fun j hj h => by omega) (Nat.le_refl _)⟩
theorem walNil_walk (n : Int) (v : Value) (xs : List En) (w : World) (h0 : (Lit.int .i64 n).wf = true) (hv : EntI w v xs) (hz : xs.length ≤ 4398046511104) (hy : ∀ x ∈ xs, x.da.size ≤ 140737488355328) (hG : GV w) : Calls Tryz.prog 6 #[.int .i64 n, v] w fun e w' => e = .returned (.bool true) ∧ Below w.heap.size w w' := by
  obtain ⟨ad, cap, rfl, -⟩ := hv.form
  exact walNil_walk0 n ad xs.length cap w hG
end Go.Proofs.YtefbioainibmaaaGreatDoor
