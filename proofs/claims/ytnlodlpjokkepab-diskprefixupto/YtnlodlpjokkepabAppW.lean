/- The walks of calls that change files. -/
import Derived.Test.YtnlodlpjokkepabRefW
namespace Go.Proofs.Ytnlodlpjokkepab
open Go.RowKit Go.Maps
set_option linter.unusedVariables false
set_option linter.unusedSimpArgs false

/-- a text of these bytes -/
abbrev tx (l : Bs) : ByteArray := ⟨l.toArray⟩
theorem tx_list (l : Bs) : (tx l).data.toList = l := by simp
theorem tx_of (s : ByteArray) : tx s.data.toList = s := by apply ByteArray.ext; simp
theorem refN1 {l : Bs} (h : nameOk l = true) : refN false [tx l] = 0 := by unfold refN; simp [h]
theorem refN2 {l m : Bs} (h : nameOk l = true) (h2 : nameOk m = true) : refN false [tx l, tx m] = 0 := by unfold refN; simp [h, h2]
theorem nameOk_len {l : Bs} (h : nameOk l = true) : l.length ≤ 80 := by unfold nameOk at h; simp at h; exact h.1.2

theorem Left.from {w W w' : World} {c : Nat → Nat} {p : Nat} {d : Ds} (k : Keep (fun _ => False) w W) (h : Left W c p d w') : Left w c p d w' := by
  obtain ⟨⟨c', hD, hc⟩, hK⟩ := h
  exact ⟨⟨c', hD, fun j hj => hc j (Nat.lt_of_lt_of_le hj k.size)⟩, (k.mono (fun _ _ h => h.elim)).trans hK⟩
theorem left_same {w w' : World} {c : Nat → Nat} {p : Nat} {d : Ds} (h : DiskIs w c p d) (k : Keep (fun _ => False) w w') : Left w c p d w' :=
  ⟨⟨c, h.keep k (fun _ _ => rfl) (fun _ _ h => h.elim), fun _ _ => rfl⟩, k.mono (fun _ _ h => h.elim)⟩
theorem DiskIs.cells {w : World} {c : Nat → Nat} {p : Nat} {d : Ds} (h : DiskIs w c p d) : w.cell? ⟨p, 1, none⟩ = some (.int .i64 (tot d.now)) ∧ w.cell? ⟨p, 5, none⟩ = some (.int .i64 d.n) ∧ w.cell? ⟨p, 7, none⟩ = some (.bool d.bd) ∧ w.cell? ⟨p, 8, none⟩ = some (.int .i64 d.rm) ∧ w.cell? ⟨p, 9, none⟩ = some (.bool d.dn) := by
  obtain ⟨R, h⟩ := h
  refine ⟨?_, h.row.cellAt (by simp [Raw.cs, dC]), h.row.cellAt (by simp [Raw.cs, dC]), h.row.cellAt (by simp [Raw.cs, dC]), h.row.cellAt (by simp [Raw.cs, dC])⟩
  rw [← h.eN]; exact h.row.cellAt (by simp [Raw.cs, dC])
theorem DiskIs.down {w : World} {c : Nat → Nat} {p : Nat} {d : Ds} (h : DiskIs w c p d) : DownIs w (.pointer (some ⟨p, 0, none⟩)) d.dn := .inr ⟨p, rfl, h.cells.2.2.2.2⟩
theorem DiskIs.tot_le {w : World} {c : Nat → Nat} {p : Nat} {d : Ds} (h : DiskIs w c p d) : tot d.now ≤ d.wt ∧ d.now.length ≤ d.S.length + d.ws.length := by
  obtain ⟨R, h⟩ := h
  have hS : Srt d.S := by rw [← h.eS]; exact srt_txts.2 h.sure.srt
  have hmv : ∀ x ∈ d.ws, x.kind = 2 → x.to ≠ x.name := fun x hm => by obtain ⟨i, hi, rfl⟩ := List.getElem_of_mem hm; exact (h.oks i hi).move
  have hb := replay_bounds d.ws d.S hS hmv
  exact ⟨hb.2.1, hb.2.2⟩
/-- a change, at a world a little further on -/
theorem chg_from {w W : World} {c : Nat → Nat} {p : Nat} {d : Ds} (h : DiskIs w c p d) (hdn : d.dn = false) (ch : Chg) (hok : ChOk d.now ch) (k : Keep (fun _ => False) w W) (hM : d.wt + d.S.length + d.ws.length + ch.s.length + ch.name.length + ch.to.length ≤ 70368744177) (hn : d.n ≤ 1152921504606846976) :
    Calls Try.prog 47 #[.pointer (some ⟨p, 0, none⟩), cv ch] W fun e w' => e = .returned (.int .i64 (chgD d ch).2) ∧ Left w c p (chgD d ch).1 w' := by
  obtain ⟨R, hR⟩ := h.keep k (c' := c) (fun _ _ => rfl) (fun _ _ h => h.elim)
  exact (change_any p c R d ch W hR hdn hok hM hn).mono fun e w' ⟨he, hL⟩ => ⟨he, hL.from k⟩

/-- what 'Append' makes of a disk, and what is told -/
def appD (d : Ds) (name s : Bs) : Ds × Int :=
  if d.dn then (d, 21) else if nameOk name = false then (d, 20) else if fitB d.bd d.rm (tot d.now) s.length = false then (d, 22) else chgD d ⟨0, name, [], s, 0⟩

set_option maxRecDepth 100000 in
set_option maxHeartbeats 1000000 in
theorem append_any (p : Nat) (c : Nat → Nat) (d : Ds) (name s : Bs) (w : World) (h : DiskIs w c p d) (hM : d.wt + d.S.length + d.ws.length + s.length + name.length ≤ 70368744177) (hn : d.n ≤ 1152921504606846976) :
    Calls Try.prog 17 #[.pointer (some ⟨p, 0, none⟩), .string (tx name), .string (tx s)] w fun e w' => e = .returned (.int .i64 (appD d name s).2) ∧ Left w c p (appD d name s).1 w' := by
  have hD := h.down
  by_cases hdn : d.dn = true
  · have e : appD d name s = (d, 21) := by unfold appD; rw [if_pos hdn]
    rw [e]
    refine (append_refused _ _ (tx name) (tx s) w hD (by rw [hdn]; unfold refN; simp)).mono fun e w' ⟨he, hk⟩ => ⟨?_, left_same h hk⟩
    rw [he, hdn]; rfl
  have hdn' : d.dn = false := by simpa using hdn
  by_cases hnm : nameOk name = true
  · rw [hdn'] at hD
    obtain ⟨c1, c5, c7, c8, c9⟩ := (h.keep (keep_alloc (fun _ => False) w (.cells #[.string (tx name)] 9)) (c' := c) (fun _ _ => rfl) (fun _ _ h => h.elim)).cells
    have hkA := keep_alloc (fun _ => False) w (.cells #[.string (tx name)] 9)
    have RC := hid (ref_call1 _ _ (tx name) w hD)
    rw [refN1 hnm] at RC
    have hsz : ((tx s).size : Int) = (s.length : Int) := by rw [size_mk]
    have htl := h.tot_le
    have FI := hid (fits_any p (tot d.now) d.bd d.rm (s.length : Int) _ c1 c7 c8 (by omega) (by omega))
    have hok : ChOk d.now ⟨0, name, [], s, 0⟩ := ⟨by simp, by have := nameOk_len hnm; show name.length ≤ _; unfold maxLen; omega, by simp, by simp, by simp⟩
    have CH : Hid (∀ W, Keep (fun _ => False) w W → Calls _ _ _ _ _) := fun W k => chg_from h hdn' ⟨0, name, [], s, 0⟩ hok k (by simp only [List.length_nil]; omega) hn
    unfold cv chV at CH
    cases hf : fitB d.bd d.rm (tot d.now) s.length with
    | false =>
      have HE : Hid (appD d name s = (d, 22)) := by show _ = _; unfold appD; rw [if_neg hdn, if_neg (by simp [hnm]), if_pos hf]
      rw [hf] at FI
      have HL := hid (fun w' (k : Keep (fun _ => False) w w') => left_same h k)
      have HKA := hid hkA
      rw [HE.out]
      clear h hD hdn hdn' hnm c1 c5 c7 c8 c9 htl hok CH hM hn hf hkA
      go_enter Try.func17, Try.ntmps17
      go_wp2_with fail
      refine RC.out.mono ?_
      rintro e w1 ⟨rfl, rfl⟩
      clear RC
      go_wp2_with fail
      refine FI.out.mono ?_
      rintro e w2 ⟨rfl, hk2⟩
      have HK2 := hid hk2
      clear FI hk2
      go_wp2
      go_ret
      exact ⟨rfl, HL.out _ (HKA.out.trans HK2.out)⟩
    | true =>
      have HE : Hid (appD d name s = chgD d ⟨0, name, [], s, 0⟩) := by show _ = _; unfold appD; rw [if_neg hdn, if_neg (by simp [hnm]), if_neg (by simp [hf])]
      rw [hf] at FI
      have HKA := hid hkA
      rw [HE.out]
      clear h hD hdn hdn' hnm c1 c5 c7 c8 c9 htl hok hM hn hf hkA HE
      generalize chgD d ⟨0, name, [], s, 0⟩ = r at *
      go_enter Try.func17, Try.ntmps17
      go_wp2_with fail
      refine RC.out.mono ?_
      rintro e w1 ⟨rfl, rfl⟩
      clear RC
      go_wp2_with fail
      refine FI.out.mono ?_
      rintro e w2 ⟨rfl, hk2⟩
      have HK2 := hid hk2
      clear FI hk2
      go_wp2_with fail
      refine (CH.out w2 (HKA.out.trans HK2.out)).mono ?_
      rintro e w3 ⟨rfl, hL⟩
      have HL := hid hL
      clear CH hL
      go_wp2
      go_ret
      exact ⟨rfl, HL.out⟩
  · have hnm' : nameOk name = false := by simpa using hnm
    have e : appD d name s = (d, 20) := by unfold appD; rw [if_neg hdn, if_pos hnm']
    rw [e]
    refine (append_refused _ _ (tx name) (tx s) w hD (by rw [hdn']; unfold refN; simp [hnm'])).mono fun e w' ⟨he, hk⟩ => ⟨?_, left_same h hk⟩
    rw [he, hdn']; unfold refN; simp [hnm']
end Go.Proofs.Ytnlodlpjokkepab
