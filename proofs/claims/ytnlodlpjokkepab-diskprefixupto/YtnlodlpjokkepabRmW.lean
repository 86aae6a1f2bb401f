/- The walks of the calls that take files away and cut them, and of small questions. -/
import Derived.Test.YtnlodlpjokkepabSyncW
namespace Go.Proofs.Ytnlodlpjokkepab
open Go.RowKit Go.Maps
set_option linter.unusedVariables false
set_option linter.unusedSimpArgs false

/-- what 'Remove' makes of a disk, and what is told -/
def rmD (d : Ds) (name : Bs) : Ds × Int :=
  if d.dn then (d, 21) else if nameOk name = false then (d, 20) else if (kget d.now name).isSome = false then (d, 4) else chgD d ⟨3, name, [], [], 0⟩
/-- what 'Cut' makes of a disk, and what is told -/
def cuD (d : Ds) (name : Bs) (l : Int) : Ds × Int :=
  if d.dn then (d, 21) else if nameOk name = false then (d, 20) else if (kget d.now name).isSome = false then (d, 4) else if l < 0 ∨ ((((kget d.now name).getD []).length : Nat) : Int) < l then (d, 1) else chgD d ⟨4, name, [], [], l.toNat⟩

set_option maxRecDepth 100000 in
set_option maxHeartbeats 1000000 in
theorem remove_any (p : Nat) (c : Nat → Nat) (d : Ds) (name : Bs) (w : World) (h : DiskIs w c p d) (hM : d.wt + d.S.length + d.ws.length + name.length ≤ 70368744177) (hn : d.n ≤ 1152921504606846976) :
    Calls Try.prog 33 #[.pointer (some ⟨p, 0, none⟩), .string (tx name)] w fun e w' => e = .returned (.int .i64 (rmD d name).2) ∧ Left w c p (rmD d name).1 w' := by
  have hD := h.down
  by_cases hdn : d.dn = true
  · have e : rmD d name = (d, 21) := by unfold rmD; rw [if_pos hdn]
    rw [e]
    refine (remove_refused _ _ (tx name) w hD (by rw [hdn]; unfold refN; simp)).mono fun e w' ⟨he, hk⟩ => ⟨?_, left_same h hk⟩
    rw [he, hdn]; rfl
  have hdn' : d.dn = false := by simpa using hdn
  by_cases hnm : nameOk name = true
  · rw [hdn'] at hD
    have hkA := keep_alloc (fun _ => False) w (.cells #[.string (tx name)] 9)
    obtain ⟨mo, N, c0, hmv, hN, hrow⟩ := h.files hkA
    have RC := hid (ref_call1 _ _ (tx name) w hD)
    rw [refN1 hnm] at RC
    have hnl := nameOk_len hnm
    have hns : (tx name).size ≤ maxLen := by rw [size_mk]; unfold maxLen; omega
    have HA := hid (has_any p mo (vals N) (tx name) _ c0 hmv hns)
    have hkn : (kget (vals N) name).isSome = (kget d.now name).isSome := by rw [← hN, txts_get, vals_get]; cases kget N name <;> rfl
    rw [tx_list, hkn] at HA
    have HKA := hid hkA
    have HL := hid (fun w' (k : Keep (fun _ => False) w w') => left_same h k)
    cases hg : (kget d.now name).isSome with
    | false =>
      have HE : Hid (rmD d name = (d, 4)) := by show _ = _; unfold rmD; rw [if_neg hdn, if_neg (by simp [hnm]), if_pos hg]
      rw [hg] at HA
      rw [HE.out]
      clear h hD hdn hdn' hnm hmv hN hrow hnl hns hkn hkA hM hn hg
      go_enter Try.func33, Try.ntmps33
      go_wp2_with fail
      refine RC.out.mono ?_
      rintro e w1 ⟨rfl, rfl⟩
      clear RC
      go_wp2_with fail
      refine HA.out.mono ?_
      rintro e w2 ⟨rfl, rfl⟩
      clear HA
      go_wp2
      go_ret
      exact ⟨rfl, HL.out _ HKA.out⟩
    | true =>
      rw [hg] at HA
      have HE : Hid (rmD d name = chgD d ⟨3, name, [], [], 0⟩) := by show _ = _; unfold rmD; rw [if_neg hdn, if_neg (by simp [hnm]), if_neg (by simp [hg])]
      have hok : ChOk d.now ⟨3, name, [], [], 0⟩ := ⟨by simp, by show name.length ≤ _; unfold maxLen; omega, by simp, by simp, by simp⟩
      have CH : Hid (∀ W, Keep (fun _ => False) w W → Calls Try.prog 47 #[.pointer (some ⟨p, 0, none⟩), .agg #[.int .i64 3, .string (tx name), .string ⟨#[]⟩, .string ⟨#[]⟩, .int .i64 0]] W fun e w' => e = .returned (.int .i64 (chgD d ⟨3, name, [], [], 0⟩).2) ∧ Left w c p (chgD d ⟨3, name, [], [], 0⟩).1 w') := fun W k => chg_from h hdn' ⟨3, name, [], [], 0⟩ hok k (by simp only [List.length_nil]; omega) hn
      rw [HE.out]
      clear h hD hdn hdn' hnm hmv hN hrow hnl hns hkn hkA hM hn hg HE hok HL
      generalize chgD d ⟨3, name, [], [], 0⟩ = r at *
      go_enter Try.func33, Try.ntmps33
      go_wp2_with fail
      refine RC.out.mono ?_
      rintro e w1 ⟨rfl, rfl⟩
      clear RC
      go_wp2_with fail
      refine HA.out.mono ?_
      rintro e w2 ⟨rfl, rfl⟩
      clear HA
      go_wp2_with fail
      refine (CH.out _ HKA.out).mono ?_
      rintro e w3 ⟨rfl, hL⟩
      have HL := hid hL
      clear CH hL
      go_wp2
      go_ret
      exact ⟨rfl, HL.out⟩
  · have hnm' : nameOk name = false := by simpa using hnm
    have e : rmD d name = (d, 20) := by unfold rmD; rw [if_neg hdn, if_pos hnm']
    rw [e]
    refine (remove_refused _ _ (tx name) w hD (by rw [hdn']; unfold refN; simp [hnm'])).mono fun e w' ⟨he, hk⟩ => ⟨?_, left_same h hk⟩
    rw [he, hdn']; unfold refN; simp [hnm']

set_option maxRecDepth 100000 in
set_option maxHeartbeats 1000000 in
theorem cut_any (p : Nat) (c : Nat → Nat) (d : Ds) (name : Bs) (l : Int) (w : World) (h : DiskIs w c p d) (hM : d.wt + d.S.length + d.ws.length + name.length ≤ 70368744177) (hn : d.n ≤ 1152921504606846976) :
    Calls Try.prog 34 #[.pointer (some ⟨p, 0, none⟩), .string (tx name), .int .i64 l] w fun e w' => e = .returned (.int .i64 (cuD d name l).2) ∧ Left w c p (cuD d name l).1 w' := by
  have hD := h.down
  by_cases hdn : d.dn = true
  · have e : cuD d name l = (d, 21) := by unfold cuD; rw [if_pos hdn]
    rw [e]
    refine (cut_refused _ _ (tx name) l w hD (by rw [hdn]; unfold refN; simp)).mono fun e w' ⟨he, hk⟩ => ⟨?_, left_same h hk⟩
    rw [he, hdn]; rfl
  have hdn' : d.dn = false := by simpa using hdn
  by_cases hnm : nameOk name = true
  · rw [hdn'] at hD
    have hkA := keep_alloc (fun _ => False) w (.cells #[.string (tx name)] 9)
    obtain ⟨mo, N, c0, hmv, hN, hrow⟩ := h.files hkA
    have RC := hid (ref_call1 _ _ (tx name) w hD)
    rw [refN1 hnm] at RC
    have hnl := nameOk_len hnm
    have hns : (tx name).size ≤ maxLen := by rw [size_mk]; unfold maxLen; omega
    have HA := hid (has_any p mo (vals N) (tx name) _ c0 hmv hns)
    have hkn : (kget (vals N) name).isSome = (kget d.now name).isSome := by rw [← hN, txts_get, vals_get]; cases kget N name <;> rfl
    rw [tx_list, hkn] at HA
    have hlk := mapV_look hmv (tx name) hns
    rw [tx_list, oldV_vals] at hlk
    obtain ⟨ad, cap, hov⟩ := (old_bsl hrow name).size
    rw [hov] at hlk
    have hold : (kget d.now name).getD [] = (oldV N name).2 := by rw [← hN, oldV_txts]
    have HKA := hid hkA
    have HL := hid (fun w' (k : Keep (fun _ => False) w w') => left_same h k)
    cases hg : (kget d.now name).isSome with
    | false =>
      have HE : Hid (cuD d name l = (d, 4)) := by show _ = _; unfold cuD; rw [if_neg hdn, if_neg (by simp [hnm]), if_pos hg]
      rw [hg] at HA
      rw [HE.out]
      clear h hD hdn hdn' hnm hmv hN hrow hnl hns hkn hkA hM hn hg hlk hov hold
      go_enter Try.func34, Try.ntmps34
      go_wp2_with fail
      refine RC.out.mono ?_
      rintro e w1 ⟨rfl, rfl⟩
      clear RC
      go_wp2_with fail
      refine HA.out.mono ?_
      rintro e w2 ⟨rfl, rfl⟩
      clear HA
      go_wp2
      go_ret
      exact ⟨rfl, HL.out _ HKA.out⟩
    | true =>
      rw [hg] at HA
      have hce : cuD d name l = if l < 0 ∨ (((oldV N name).2.length : Nat) : Int) < l then (d, 1) else chgD d ⟨4, name, [], [], l.toNat⟩ := by unfold cuD; rw [if_neg hdn, if_neg (by simp [hnm]), if_neg (by simp [hg]), hold]
      have hokc : ¬ (l < 0 ∨ (((oldV N name).2.length : Nat) : Int) < l) → ChOk d.now ⟨4, name, [], [], l.toNat⟩ := fun hh => ⟨by simp, by show name.length ≤ _; unfold maxLen; omega, by simp, by simp, fun _ => by show l.toNat ≤ ((kget d.now name).getD []).length; rw [hold]; omega⟩
      generalize (oldV N name).2.length = ol at *
      by_cases hneg : l < 0
      · have HE : Hid (cuD d name l = (d, 1)) := by show _ = _; rw [hce, if_pos (.inl hneg)]
        rw [HE.out]
        clear h hD hdn hdn' hnm hmv hN hrow hnl hns hkn hkA hM hn hg hov hold hce hokc HE
        go_enter Try.func34, Try.ntmps34
        go_wp2_with fail
        refine RC.out.mono ?_
        rintro e w1 ⟨rfl, rfl⟩
        clear RC
        go_wp2_with fail
        refine HA.out.mono ?_
        rintro e w2 ⟨rfl, rfl⟩
        clear HA
        go_wp2
        go_ret
        exact ⟨rfl, HL.out _ HKA.out⟩
      · have hneg' : decide (l < 0) = false := decide_eq_false hneg
        by_cases hbig : (ol : Int) < l
        · have HE : Hid (cuD d name l = (d, 1)) := by show _ = _; rw [hce, if_pos (.inr hbig)]
          rw [HE.out]
          clear h hD hdn hdn' hnm hmv hN hrow hnl hns hkn hkA hM hn hg hov hold hce hokc HE
          go_enter Try.func34, Try.ntmps34
          go_wp2_with fail
          refine RC.out.mono ?_
          rintro e w1 ⟨rfl, rfl⟩
          clear RC
          go_wp2_with fail
          refine HA.out.mono ?_
          rintro e w2 ⟨rfl, rfl⟩
          clear HA
          go_wp2
          go_ret
          exact ⟨rfl, HL.out _ HKA.out⟩
        · have hbig' : decide ((ol : Int) < l) = false := decide_eq_false hbig
          have HE : Hid (cuD d name l = chgD d ⟨4, name, [], [], l.toNat⟩) := by show _ = _; rw [hce, if_neg (by rintro (e | e); exact hneg e; exact hbig e)]
          have hok := hokc (by rintro (e | e); exact hneg e; exact hbig e)
          have hlt : ((l.toNat : Nat) : Int) = l := by omega
          have CH : Hid (∀ W, Keep (fun _ => False) w W → Calls Try.prog 47 #[.pointer (some ⟨p, 0, none⟩), .agg #[.int .i64 4, .string (tx name), .string ⟨#[]⟩, .string ⟨#[]⟩, .int .i64 l]] W fun e w' => e = .returned (.int .i64 (chgD d ⟨4, name, [], [], l.toNat⟩).2) ∧ Left w c p (chgD d ⟨4, name, [], [], l.toNat⟩).1 w') := fun W k => by
            have := chg_from h hdn' ⟨4, name, [], [], l.toNat⟩ hok k (by simp only [List.length_nil]; omega) hn
            unfold cv chV at this
            simp only [hlt] at this
            exact this
          rw [HE.out]
          clear h hD hdn hdn' hnm hmv hN hrow hnl hns hkn hkA hM hn hg hov hold hce hokc HE hok hlt HL
          generalize chgD d ⟨4, name, [], [], l.toNat⟩ = r at *
          go_enter Try.func34, Try.ntmps34
          go_wp2_with fail
          refine RC.out.mono ?_
          rintro e w1 ⟨rfl, rfl⟩
          clear RC
          go_wp2_with fail
          refine HA.out.mono ?_
          rintro e w2 ⟨rfl, rfl⟩
          clear HA
          go_wp2_with fail
          refine (CH.out _ HKA.out).mono ?_
          rintro e w3 ⟨rfl, hL⟩
          have HL := hid hL
          clear CH hL
          go_wp2
          go_ret
          exact ⟨rfl, HL.out⟩
  · have hnm' : nameOk name = false := by simpa using hnm
    have e : cuD d name l = (d, 20) := by unfold cuD; rw [if_neg hdn, if_pos hnm']
    rw [e]
    refine (cut_refused _ _ (tx name) l w hD (by rw [hdn']; unfold refN; simp [hnm'])).mono fun e w' ⟨he, hk⟩ => ⟨?_, left_same h hk⟩
    rw [he, hdn']; unfold refN; simp [hnm']

set_option maxRecDepth 100000 in
theorem used_up (p : Nat) (c : Nat → Nat) (d : Ds) (w : World) (h : DiskIs w c p d) (hdn : d.dn = false) : Calls Try.prog 30 #[.pointer (some ⟨p, 0, none⟩)] w fun e w' => e = .returned (.int .i64 (tot d.now)) ∧ w' = w := by
  have hD := h.down
  rw [hdn] at hD
  have HD := hid (down_any _ false w hD)
  have c1 := h.cells.1
  clear h hD
  go_enter Try.func30, Try.ntmps30
  go_wp2_with fail
  refine HD.out.mono ?_
  rintro e w1 ⟨rfl, rfl⟩
  clear HD
  go_wp2
  go_ret
  exact ⟨rfl, rfl⟩
set_option maxRecDepth 100000 in
theorem waits_any (p : Nat) (c : Nat → Nat) (d : Ds) (w : World) (h : DiskIs w c p d) : Calls Try.prog 23 #[.pointer (some ⟨p, 0, none⟩)] w fun e w' => e = .returned (.int .i64 d.ws.length) ∧ w' = w := by
  obtain ⟨R, h⟩ := h
  have d4 : w.cell? ⟨p, 4, none⟩ = some R.wv := h.row.cellAt (by simp [Raw.cs, dC])
  obtain ⟨ad, wc, hwc⟩ : ∃ ad cp, R.wv = .slice ad d.ws.length cp := by
    rcases h.wrow.2 with ⟨e, h0⟩ | ⟨g, cap, cur, e, _⟩
    · exact ⟨none, 0, by rw [e, h0]⟩
    · exact ⟨_, _, e⟩
  rw [hwc] at d4
  clear h hwc
  go_enter Try.func23, Try.ntmps23
  go_wp2
  go_ret
  exact ⟨rfl, rfl⟩
set_option maxRecDepth 100000 in
theorem room_any (p : Nat) (c : Nat → Nat) (d : Ds) (n : Int) (w : World) (h : DiskIs w c p d) : Calls Try.prog 29 #[.pointer (some ⟨p, 0, none⟩), .int .i64 n] w fun e w' => e = .returned (.tuple #[]) ∧ Left w c p { d with bd := decide (0 ≤ n), rm := n } w' := by
  obtain ⟨R, h⟩ := h
  have c7 : w.cell? ⟨p, 7, none⟩ = some (.bool d.bd) := h.row.cellAt (by simp [Raw.cs, dC])
  have c8 : w.cell? ⟨p, 8, none⟩ = some (.int .i64 d.rm) := h.row.cellAt (by simp [Raw.cs, dC])
  have f7 := h.row.frozen (o := 7)
  have f8 := h.row.frozen (o := 8)
  have HL : Hid (Left w c p { d with bd := decide (0 ≤ n), rm := n } ((w.setCell ⟨p, 7, none⟩ (.bool (decide (0 ≤ n)))).setCell ⟨p, 8, none⟩ (.int .i64 n))) := by
    have k : Keep (· = p) w ((w.setCell ⟨p, 7, none⟩ (.bool (decide (0 ≤ n)))).setCell ⟨p, 8, none⟩ (.int .i64 n)) := (keep_setCell _ _ _ _).trans (keep_setCell _ _ _ _)
    have hcp := h.cp
    have hr := (h.row.set 7 (.bool (decide (0 ≤ n)))).set 8 (.int .i64 n)
    refine ⟨⟨c, ⟨R, ?_, h.cp, h.now.keep' k (fun _ _ => rfl) (fun j _ e => by rw [e]; omega), h.sure.keep' k (fun _ _ => rfl) (fun j _ e => by rw [e]; omega), h.eS, h.eN, h.safe, k.ownsRow h.wrow (fun g e e2 => by have := h.wcol g e; rw [e2] at this; omega), h.wcol, h.fall.keep k (fun _ _ => rfl) (fun j _ e => by rw [e]; omega), h.unt, h.oks⟩, fun _ _ => rfl⟩, k.mono fun j _ e => by rw [e]; omega⟩
    have e : ((R.cs d).set 7 (.bool (decide (0 ≤ n)))).set 8 (.int .i64 n) = R.cs { d with bd := decide (0 ≤ n), rm := n } := by simp [Raw.cs, dC]
    rw [← e]; exact hr
  clear h
  go_enter Try.func29, Try.ntmps29
  go_wp2
  go_end0
  exact ⟨rfl, HL.out⟩
end Go.Proofs.Ytnlodlpjokkepab
