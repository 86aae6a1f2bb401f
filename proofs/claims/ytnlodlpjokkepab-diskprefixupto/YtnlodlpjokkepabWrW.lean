/- The walks of calls that lay files anew, move them, read them. -/
import Derived.Test.YtnlodlpjokkepabAppW
namespace Go.Proofs.Ytnlodlpjokkepab
open Go.RowKit Go.Maps
set_option linter.unusedVariables false
set_option linter.unusedSimpArgs false

/-- the files that are, as the walks take them -/
theorem DiskIs.files {w W : World} {c : Nat → Nat} {p : Nat} {d : Ds} (h : DiskIs w c p d) (k : Keep (fun _ => False) w W) : ∃ mo N, W.cell? ⟨p, 0, none⟩ = some (.map mo) ∧ MapV W mo (vals N) ∧ txts N = d.now ∧ ∀ x ∈ N, BSl W 0 x.2.1 x.2.2 := by
  obtain ⟨R, h⟩ := h.keep k (c' := c) (fun _ _ => rfl) (fun _ _ h => h.elim)
  exact ⟨R.nmo, R.N, h.row.cellAt (by simp [Raw.cs, dC]), h.now.map, h.eN, h.now.row⟩
theorem old_bsl {W : World} {N : List (Bs × FV)} (h : ∀ x ∈ N, BSl W 0 x.2.1 x.2.2) (n : Bs) : BSl W 0 (oldV N n).1 (oldV N n).2 := by
  unfold oldV
  cases hg : kget N n with
  | none => exact BSl.nil W 0
  | some v => exact h _ (kget_mem hg)

/-- what 'Write' makes of a disk, and what is told -/
def wrD (d : Ds) (name s : Bs) : Ds × Int :=
  if d.dn then (d, 21) else if nameOk name = false then (d, 20) else if fitB d.bd d.rm (tot d.now) ((s.length : Int) - (((kget d.now name).getD []).length : Int)) = false then (d, 22) else chgD d ⟨1, name, [], s, 0⟩

set_option maxRecDepth 100000 in
set_option maxHeartbeats 1000000 in
theorem write_any (p : Nat) (c : Nat → Nat) (d : Ds) (name s : Bs) (w : World) (h : DiskIs w c p d) (hM : d.wt + d.S.length + d.ws.length + s.length + name.length ≤ 70368744177) (hn : d.n ≤ 1152921504606846976) :
    Calls Try.prog 25 #[.pointer (some ⟨p, 0, none⟩), .string (tx name), .string (tx s)] w fun e w' => e = .returned (.int .i64 (wrD d name s).2) ∧ Left w c p (wrD d name s).1 w' := by
  have hD := h.down
  by_cases hdn : d.dn = true
  · have e : wrD d name s = (d, 21) := by unfold wrD; rw [if_pos hdn]
    rw [e]
    refine (write_refused _ _ (tx name) (tx s) w hD (by rw [hdn]; unfold refN; simp)).mono fun e w' ⟨he, hk⟩ => ⟨?_, left_same h hk⟩
    rw [he, hdn]; rfl
  have hdn' : d.dn = false := by simpa using hdn
  by_cases hnm : nameOk name = true
  · rw [hdn'] at hD
    have hkA := keep_alloc (fun _ => False) w (.cells #[.string (tx name)] 9)
    obtain ⟨c1, c5, c7, c8, c9⟩ := (h.keep hkA (c' := c) (fun _ _ => rfl) (fun _ _ h => h.elim)).cells
    obtain ⟨mo, N, c0, hmv, hN, hrow⟩ := h.files hkA
    have RC := hid (ref_call1 _ _ (tx name) w hD)
    rw [refN1 hnm] at RC
    have hsz : ((tx s).size : Int) = (s.length : Int) := by rw [size_mk]
    have htl := h.tot_le
    have hnl := nameOk_len hnm
    have hlk := mapV_look hmv (tx name) (by rw [size_mk]; unfold maxLen; omega)
    rw [tx_list, oldV_vals] at hlk
    have hbo := old_bsl hrow name
    obtain ⟨ad, cap, hov⟩ := hbo.size
    rw [hov] at hlk
    have hold : (kget d.now name).getD [] = (oldV N name).2 := by rw [← hN, oldV_txts]
    have holdl : (oldV N name).2.length ≤ tot d.now := by
      rw [← hold]
      cases hg : kget d.now name with
      | none => simp
      | some b => exact tot_get hg
    have hw : wrap64 ((s.length : Int) - ((oldV N name).2.length : Int)) = (s.length : Int) - ((oldV N name).2.length : Int) := IntWalk.wrap64_in _ (by omega)
    have FI := hid (fits_any p (tot d.now) d.bd d.rm ((s.length : Int) - ((oldV N name).2.length : Int)) _ c1 c7 c8 (by omega) (by omega))
    have hok : ChOk d.now ⟨1, name, [], s, 0⟩ := ⟨by simp, by show name.length ≤ _; unfold maxLen; omega, by simp, by simp, by simp⟩
    have CH : Hid (∀ W, Keep (fun _ => False) w W → Calls _ _ _ _ _) := fun W k => chg_from h hdn' ⟨1, name, [], s, 0⟩ hok k (by simp only [List.length_nil]; omega) hn
    unfold cv chV at CH
    have hwe : wrD d name s = if fitB d.bd d.rm (tot d.now) ((s.length : Int) - ((oldV N name).2.length : Int)) = false then (d, 22) else chgD d ⟨1, name, [], s, 0⟩ := by unfold wrD; rw [if_neg hdn, if_neg (by simp [hnm]), hold]
    generalize (oldV N name).2.length = ol at *
    cases hf : fitB d.bd d.rm (tot d.now) ((s.length : Int) - (ol : Int)) with
    | false =>
      have HE : Hid (wrD d name s = (d, 22)) := by show _ = _; rw [hwe, if_pos hf]
      rw [hf] at FI
      have HL := hid (fun w' (k : Keep (fun _ => False) w w') => left_same h k)
      have HKA := hid hkA
      rw [HE.out]
      clear h hD hdn hdn' hnm c1 c5 c7 c8 c9 htl hok CH hM hn hf hkA hwe hold holdl hov hbo hmv hN hrow hnl
      go_enter Try.func25, Try.ntmps25
      go_wp2_with fail
      refine RC.out.mono ?_
      rintro e w1 ⟨rfl, rfl⟩
      clear RC
      go_wp2_with fail
      refine FI.out.mono ?_
      rintro e w2 ⟨rfl, hk2⟩
      have HK2 := hid hk2
      clear FI hk2
      go_wp2
      go_ret
      exact ⟨rfl, HL.out _ (HKA.out.trans HK2.out)⟩
    | true =>
      have HE : Hid (wrD d name s = chgD d ⟨1, name, [], s, 0⟩) := by show _ = _; rw [hwe, if_neg (by simp [hf])]
      rw [hf] at FI
      have HKA := hid hkA
      rw [HE.out]
      clear h hD hdn hdn' hnm c1 c5 c7 c8 c9 htl hok hM hn hf hkA HE hwe hold holdl hov hbo hmv hN hrow hnl
      generalize chgD d ⟨1, name, [], s, 0⟩ = r at *
      go_enter Try.func25, Try.ntmps25
      go_wp2_with fail
      refine RC.out.mono ?_
      rintro e w1 ⟨rfl, rfl⟩
      clear RC
      go_wp2_with fail
      refine FI.out.mono ?_
      rintro e w2 ⟨rfl, hk2⟩
      have HK2 := hid hk2
      clear FI hk2 hlk c0
      go_wp2_with fail
      refine (CH.out w2 (HKA.out.trans HK2.out)).mono ?_
      rintro e w3 ⟨rfl, hL⟩
      have HL := hid hL
      clear CH hL
      go_wp2
      go_ret
      exact ⟨rfl, HL.out⟩
  · have hnm' : nameOk name = false := by simpa using hnm
    have e : wrD d name s = (d, 20) := by unfold wrD; rw [if_neg hdn, if_pos hnm']
    rw [e]
    refine (write_refused _ _ (tx name) (tx s) w hD (by rw [hdn']; unfold refN; simp [hnm'])).mono fun e w' ⟨he, hk⟩ => ⟨?_, left_same h hk⟩
    rw [he, hdn']; unfold refN; simp [hnm']

/-- what 'Read' tells -/
def rdD (d : Ds) (name : Bs) : Bs × Int :=
  if d.dn then ([], 21) else if nameOk name = false then ([], 20) else match kget d.now name with
    | none => ([], 4)
    | some b => (b, 0)

set_option maxRecDepth 100000 in
set_option maxHeartbeats 1000000 in
theorem read_any (p : Nat) (c : Nat → Nat) (d : Ds) (name : Bs) (w : World) (h : DiskIs w c p d) :
    Calls Try.prog 20 #[.pointer (some ⟨p, 0, none⟩), .string (tx name)] w fun e w' => e = .returned (.tuple #[.string (tx (rdD d name).1), .int .i64 (rdD d name).2]) ∧ Keep (fun _ => False) w w' := by
  have hD := h.down
  by_cases hdn : d.dn = true
  · have e : rdD d name = ([], 21) := by unfold rdD; rw [if_pos hdn]
    rw [e]
    refine (read_refused _ _ (tx name) w hD (by rw [hdn]; unfold refN; simp)).mono fun e w' ⟨he, hk⟩ => ⟨?_, hk⟩
    rw [he, hdn]; rfl
  have hdn' : d.dn = false := by simpa using hdn
  by_cases hnm : nameOk name = true
  · rw [hdn'] at hD
    have hkA := keep_alloc (fun _ => False) w (.cells #[.string (tx name)] 9)
    obtain ⟨mo, N, c0, hmv, hN, hrow⟩ := h.files hkA
    have RC := hid (ref_call1 _ _ (tx name) w hD)
    rw [refN1 hnm] at RC
    have hnl := nameOk_len hnm
    have hns : (tx name).size ≤ maxLen := by rw [size_mk]; unfold maxLen; omega
    have hlk := mapV_look hmv (tx name) hns
    have HA := hid (has_any p mo (vals N) (tx name) _ c0 hmv hns)
    rw [tx_list, oldV_vals] at hlk
    rw [tx_list, vals_get] at HA
    have htxt := (old_bsl hrow name).text
    have hre : rdD d name = match kget d.now name with | none => ([], 4) | some b => (b, 0) := by unfold rdD; rw [if_neg hdn, if_neg (by simp [hnm])]
    have hkn : kget d.now name = (kget N name).map (·.2) := by rw [← hN, txts_get]
    have HKA := hid hkA
    cases hg : kget N name with
    | none =>
      rw [hg] at HA hkn
      have hre2 : rdD d name = ([], 4) := by rw [hre, hkn]; rfl
      rw [hre2]
      clear hre2
      clear h hD hdn hdn' hnm hmv hN hrow hnl hns hre hkn hkA hlk htxt
      go_enter Try.func20, Try.ntmps20
      go_wp2_with fail
      refine RC.out.mono ?_
      rintro e w1 ⟨rfl, rfl⟩
      clear RC
      go_wp2_with fail
      refine HA.out.mono ?_
      rintro e w2 ⟨rfl, rfl⟩
      clear HA
      go_wp2
      go_ret2
      exact ⟨rfl, HKA.out⟩
    | some x =>
      have ho : oldV N name = x := by unfold oldV; rw [hg]; rfl
      rw [hg] at HA hkn
      rw [ho] at hlk htxt
      obtain ⟨v, b⟩ := x
      have hre2 : rdD d name = (b, 0) := by rw [hre, hkn]; rfl
      rw [hre2]
      clear hre2
      clear h hD hdn hdn' hnm hmv hN hrow hnl hns hre hkn hkA ho hg
      go_enter Try.func20, Try.ntmps20
      go_wp2_with fail
      refine RC.out.mono ?_
      rintro e w1 ⟨rfl, rfl⟩
      clear RC
      go_wp2_with fail
      refine HA.out.mono ?_
      rintro e w2 ⟨rfl, rfl⟩
      clear HA
      go_wp2
      go_ret2
      exact ⟨rfl, HKA.out⟩
  · have hnm' : nameOk name = false := by simpa using hnm
    have e : rdD d name = ([], 20) := by unfold rdD; rw [if_neg hdn, if_pos hnm']
    rw [e]
    refine (read_refused _ _ (tx name) w hD (by rw [hdn']; unfold refN; simp [hnm'])).mono fun e w' ⟨he, hk⟩ => ⟨?_, hk⟩
    rw [he, hdn']; unfold refN; simp [hnm']

/-- what 'Move' makes of a disk, and what is told -/
def mvD (d : Ds) (name to : Bs) : Ds × Int :=
  if d.dn then (d, 21) else if (nameOk name && nameOk to) = false then (d, 20) else if (kget d.now name).isSome = false then (d, 4) else if name = to then (d, 1) else chgD d ⟨2, name, to, [], 0⟩
theorem tx_beq (a b : Bs) : ((tx a).toList == (tx b).toList) = decide (a = b) := by
  rw [ByteArray.toList_eq, ByteArray.toList_eq, tx_list, tx_list, Bool.eq_iff_iff]
  simp

set_option maxRecDepth 100000 in
set_option maxHeartbeats 1000000 in
theorem move_any (p : Nat) (c : Nat → Nat) (d : Ds) (name to : Bs) (w : World) (h : DiskIs w c p d) (hM : d.wt + d.S.length + d.ws.length + name.length + to.length ≤ 70368744177) (hn : d.n ≤ 1152921504606846976) :
    Calls Try.prog 28 #[.pointer (some ⟨p, 0, none⟩), .string (tx name), .string (tx to)] w fun e w' => e = .returned (.int .i64 (mvD d name to).2) ∧ Left w c p (mvD d name to).1 w' := by
  have hD := h.down
  by_cases hdn : d.dn = true
  · have e : mvD d name to = (d, 21) := by unfold mvD; rw [if_pos hdn]
    rw [e]
    refine (move_refused _ _ (tx name) (tx to) w hD (by rw [hdn]; unfold refN; simp)).mono fun e w' ⟨he, hk⟩ => ⟨?_, left_same h hk⟩
    rw [he, hdn]; rfl
  have hdn' : d.dn = false := by simpa using hdn
  by_cases hnm : (nameOk name && nameOk to) = true
  · have hnm1 : nameOk name = true := by simp at hnm; exact hnm.1
    have hnm2 : nameOk to = true := by simp at hnm; exact hnm.2
    rw [hdn'] at hD
    have hkA := keep_alloc (fun _ => False) w (.cells #[.string (tx name), .string (tx to)] 9)
    obtain ⟨mo, N, c0, hmv, hN, hrow⟩ := h.files hkA
    have RC := hid (ref_call2 _ _ (tx name) (tx to) w hD)
    rw [refN2 hnm1 hnm2] at RC
    have hnl := nameOk_len hnm1
    have hnl2 := nameOk_len hnm2
    have hns : (tx name).size ≤ maxLen := by rw [size_mk]; unfold maxLen; omega
    have HA := hid (has_any p mo (vals N) (tx name) _ c0 hmv hns)
    have hkn : (kget (vals N) name).isSome = (kget d.now name).isSome := by rw [← hN, txts_get, vals_get]; cases kget N name <;> rfl
    rw [tx_list, hkn] at HA
    have hbe := tx_beq name to
    have HKA := hid hkA
    have HL := hid (fun w' (k : Keep (fun _ => False) w w') => left_same h k)
    cases hg : (kget d.now name).isSome with
    | false =>
      have HE : Hid (mvD d name to = (d, 4)) := by show _ = _; unfold mvD; rw [if_neg hdn, if_neg (by simp [hnm1, hnm2]), if_pos hg]
      rw [hg] at HA
      rw [HE.out]
      clear h hD hdn hdn' hnm hnm1 hnm2 hmv hN hrow hnl hnl2 hns hkn hkA hM hn hg hbe
      go_enter Try.func28, Try.ntmps28
      go_wp2_with fail
      refine RC.out.mono ?_
      rintro e w1 ⟨rfl, rfl⟩
      clear RC
      go_wp2_with fail
      refine HA.out.mono ?_
      rintro e w2 ⟨rfl, rfl⟩
      clear HA
      go_wp2
      go_ret
      exact ⟨rfl, HL.out _ HKA.out⟩
    | true =>
      rw [hg] at HA
      by_cases heq : name = to
      · have HE : Hid (mvD d name to = (d, 1)) := by show _ = _; unfold mvD; rw [if_neg hdn, if_neg (by simp [hnm1, hnm2]), if_neg (by simp [hg]), if_pos heq]
        rw [decide_eq_true heq] at hbe
        rw [HE.out]
        clear h hD hdn hdn' hnm hnm1 hnm2 hmv hN hrow hnl hnl2 hns hkn hkA hM hn hg heq HE
        generalize tx name = A at *
        generalize tx to = B at *
        go_enter Try.func28, Try.ntmps28
        go_wp2_with fail
        refine RC.out.mono ?_
        rintro e w1 ⟨rfl, rfl⟩
        clear RC
        go_wp2_with fail
        refine HA.out.mono ?_
        rintro e w2 ⟨rfl, rfl⟩
        clear HA
        go_wp2
        go_ret
        exact ⟨rfl, HL.out _ HKA.out⟩
      · have HE : Hid (mvD d name to = chgD d ⟨2, name, to, [], 0⟩) := by show _ = _; unfold mvD; rw [if_neg hdn, if_neg (by simp [hnm1, hnm2]), if_neg (by simp [hg]), if_neg heq]
        have hok : ChOk d.now ⟨2, name, to, [], 0⟩ := ⟨by simp, by show name.length ≤ _; unfold maxLen; omega, by show to.length ≤ _; unfold maxLen; omega, fun _ e => heq e.symm, by simp⟩
        have CH : Hid (∀ W, Keep (fun _ => False) w W → Calls Try.prog 47 #[.pointer (some ⟨p, 0, none⟩), .agg #[.int .i64 2, .string (tx name), .string (tx to), .string ⟨#[]⟩, .int .i64 0]] W fun e w' => e = .returned (.int .i64 (chgD d ⟨2, name, to, [], 0⟩).2) ∧ Left w c p (chgD d ⟨2, name, to, [], 0⟩).1 w') := fun W k => chg_from h hdn' ⟨2, name, to, [], 0⟩ hok k (by simp only [List.length_nil]; omega) hn
        rw [decide_eq_false heq] at hbe
        rw [HE.out]
        clear h hD hdn hdn' hnm hnm1 hnm2 hmv hN hrow hnl hnl2 hns hkn hkA hM hn hg heq HE hok HL
        generalize chgD d ⟨2, name, to, [], 0⟩ = r at *
        generalize tx name = A at *
        generalize tx to = B at *
        go_enter Try.func28, Try.ntmps28
        go_wp2_with fail
        refine RC.out.mono ?_
        rintro e w1 ⟨rfl, rfl⟩
        clear RC
        go_wp2_with fail
        refine HA.out.mono ?_
        rintro e w2 ⟨rfl, rfl⟩
        clear HA
        go_wp2_with fail
        refine (CH.out _ HKA.out).mono ?_
        rintro e w3 ⟨rfl, hL⟩
        have HL := hid hL
        clear CH hL
        go_wp2
        go_ret
        exact ⟨rfl, HL.out⟩
  · have hnm' : (nameOk name && nameOk to) = false := by simpa using hnm
    have e : mvD d name to = (d, 20) := by unfold mvD; rw [if_neg hdn, if_pos hnm']
    have hr : refN false [tx name, tx to] = 20 := by unfold refN; simp only [Bool.false_eq_true, if_false, List.all_cons, List.all_nil, Bool.and_true, tx_list, hnm']
    rw [e]
    refine (move_refused _ _ (tx name) (tx to) w hD (by rw [hdn', hr]; decide)).mono fun e w' ⟨he, hk⟩ => ⟨?_, left_same h hk⟩
    rw [he, hdn', hr]
end Go.Proofs.Ytnlodlpjokkepab
