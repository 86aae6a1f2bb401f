/- Joined: The walks of a disk's questions of room and of files. The walks of calls that are refused: the disk is down, or a name is none. The walks of calls that change files. The walks of calls that lay files anew, move them, read them. The walks of a new disk, and of the power's coming again. The walk of a file's being made what it is among others. The walk of all that waits being made sure. The walks of the calls that take files away and cut them, and of small questions. Laying a file whole, and clearing what was left: package whole. Which snapshots may be. A snapshot's text. The walk of a disk's names, over what the library's sort of a map's keys does. The walk of falls being laid. What becomes of a disk in the law DiskMoves; nothing of the program stands here. The walk of the law's own look whether a disk works at all. The walk of the law DiskMoves. -/
import Derived.Test.YtefbioainibmaaaGreatDoorChangeW
import Derived.BigQuiet
import Derived.Test.YtefbioainibmaaaGreatDoorJoined01
import Derived.Test.YtefbioainibmaaaGreatDoorJoined05
namespace Go.Proofs.YtefbioainibmaaaGreatDoor
open Go.RowKit Go.Maps
set_option linter.unusedVariables false
set_option linter.unusedSimpArgs false

/-- is there room for more? -/
def fitB (bd : Bool) (rm : Int) (u : Nat) (more : Int) : Bool := decide (more ≤ 0) || !bd || decide ((u : Int) + more ≤ rm)
theorem keep_drewN (w : World) (n : Nat) : Keep (fun _ => False) w (w.drewN n) := by
  have := below_drewN (Below.refl w.heap.size w) n
  exact this.keep _

set_option maxRecDepth 100000 in
set_option maxHeartbeats 2000000 in
theorem fits_any (p u : Nat) (bd : Bool) (rm more : Int) (w : World) (c1 : w.cell? ⟨p, 1, none⟩ = some (.int .i64 u)) (c7 : w.cell? ⟨p, 7, none⟩ = some (.bool bd)) (c8 : w.cell? ⟨p, 8, none⟩ = some (.int .i64 rm)) (hu : u ≤ 4611686018427387904) (hm : more ≤ 4611686018427387903) :
    Calls Tryz.prog 85 #[.pointer (some ⟨p, 0, none⟩), .int .i64 more] w fun e w' => e = .returned (.bool (fitB bd rm u more)) ∧ Keep (fun _ => False) w w' := by
  by_cases h1 : more ≤ 0
  · have HE : Hid (true = fitB bd rm u more) := by show _ = _; unfold fitB; simp [h1]
    go_enter Tryz.func85, Tryz.ntmps85
    go_wp2
    go_quiet (fail)
    go_wp2
    go_ret
    exact ⟨ret_bool HE.out, keep_drewN _ _⟩
  · have hd1 : decide (more ≤ 0) = false := decide_eq_false h1
    cases bd with
    | false =>
      have HE : Hid (true = fitB false rm u more) := by show _ = _; unfold fitB; simp
      go_enter Tryz.func85, Tryz.ntmps85
      go_wp2
      go_quiet (fail)
      go_wp2
      go_ret
      exact ⟨ret_bool HE.out, keep_drewN _ _⟩
    | true =>
      have hwr : wrap64 ((u : Int) + more) = (u : Int) + more := IntWalk.wrap64_in _ (by omega)
      have HE : Hid (decide ((u : Int) + more ≤ rm) = fitB true rm u more) := by show _ = _; unfold fitB; simp [h1]
      go_enter Tryz.func85, Tryz.ntmps85
      go_wp2
      go_quiet (fail)
      go_wp2
      go_ret
      exact ⟨ret_bool HE.out, keep_drewN _ _⟩

set_option maxRecDepth 100000 in
theorem has_any (p : Nat) (mo : Option Nat) (L : List (Bs × Value)) (s : ByteArray) (w : World) (c0 : w.cell? ⟨p, 0, none⟩ = some (.map mo)) (hm : MapV w mo L) (hs : s.size ≤ maxLen) :
    Calls Tryz.prog 91 #[.pointer (some ⟨p, 0, none⟩), .string s] w fun e w' => e = .returned (.bool (kget L s.data.toList).isSome) ∧ w' = w := by
  have hl := mapV_lookok hm s hs
  generalize (kget L s.data.toList).isSome = b at hl ⊢
  generalize (kget L s.data.toList).getD (.slice none 0 0) = v at hl
  clear hm
  go_enter Tryz.func91, Tryz.ntmps91
  go_wp2
  go_ret
  exact ⟨rfl, rfl⟩
end Go.Proofs.YtefbioainibmaaaGreatDoor
namespace Go.Proofs.YtefbioainibmaaaGreatDoor
open Go.RowKit Go.Maps
set_option linter.unusedVariables false
set_option linter.unusedSimpArgs false

theorem DownIs.keep {S : Nat → Prop} {w w' : World} {dp : Value} {dn : Bool} (h : DownIs w dp dn) (k : Keep S w w') (hS : ∀ p, dp = .pointer (some ⟨p, 0, none⟩) → ¬ S p) : DownIs w' dp dn := by
  rcases h with h | ⟨p, e, h⟩
  · exact .inl h
  · refine .inr ⟨p, e, ?_⟩
    have hp := World.block_lt_of_cell? _ _ h
    exact (k.cell hp (hS p e)).trans h
/-- the names in a block of their own -/
theorem ref_call1 (dp : Value) (dn : Bool) (n : ByteArray) (w : World) (h : DownIs w dp dn) : Calls Tryz.prog 84 #[dp, .slice (some ⟨w.heap.size, 0, none⟩) 1 1] (w.alloc (.cells #[.string n] 9)) fun e w' => e = .returned (.int .i64 (refN dn [n])) ∧ w' = w.alloc (.cells #[.string n] 9) :=
  refuses_any dp dn w.heap.size [n] _ (h.keep (keep_alloc (fun _ => False) _ _) (fun _ _ h => h)) (by simp) (fun j hj => by
    have hj0 : j = 0 := by simpa using hj
    subst hj0
    rw [cell_of_row _ _ _ _ _ _ (heap_alloc_new _ _)]; rfl)
theorem ref_call2 (dp : Value) (dn : Bool) (n m : ByteArray) (w : World) (h : DownIs w dp dn) : Calls Tryz.prog 84 #[dp, .slice (some ⟨w.heap.size, 0, none⟩) 2 2] (w.alloc (.cells #[.string n, .string m] 9)) fun e w' => e = .returned (.int .i64 (refN dn [n, m])) ∧ w' = w.alloc (.cells #[.string n, .string m] 9) :=
  refuses_any dp dn w.heap.size [n, m] _ (h.keep (keep_alloc (fun _ => False) _ _) (fun _ _ h => h)) (by simp) (fun j hj => by
    have hj0 : j = 0 ∨ j = 1 := by simp at hj; omega
    rcases hj0 with rfl | rfl <;> (rw [cell_of_row _ _ _ _ _ _ (heap_alloc_new _ _)]; rfl))

set_option maxRecDepth 100000 in
theorem append_refused (dp : Value) (dn : Bool) (n s : ByteArray) (w : World) (h : DownIs w dp dn) (hr : refN dn [n] ≠ 0) : Calls Tryz.prog 172 #[dp, .string n, .string s] w fun e w' => e = .returned (.int .i64 (refN dn [n])) ∧ Keep (fun _ => False) w w' := by
  have RC := hid (ref_call1 dp dn n w h)
  have hb : (refN dn [n] != 0) = true := by rw [bne_iff_ne]; exact hr
  generalize refN dn [n] = e at *
  clear h hr
  go_enter Tryz.func172, Tryz.ntmps172
  go_wp2_with fail
  refine RC.out.mono ?_
  rintro e w1 ⟨rfl, rfl⟩
  clear RC
  go_wp2
  go_ret
  exact ⟨rfl, keep_alloc _ _ _⟩

set_option maxRecDepth 100000 in
theorem write_refused (dp : Value) (dn : Bool) (n s : ByteArray) (w : World) (h : DownIs w dp dn) (hr : refN dn [n] ≠ 0) : Calls Tryz.prog 39 #[dp, .string n, .string s] w fun e w' => e = .returned (.int .i64 (refN dn [n])) ∧ Keep (fun _ => False) w w' := by
  have RC := hid (ref_call1 dp dn n w h)
  have hb : (refN dn [n] != 0) = true := by rw [bne_iff_ne]; exact hr
  generalize refN dn [n] = e at *
  clear h hr
  go_enter Tryz.func39, Tryz.ntmps39
  go_wp2_with fail
  refine RC.out.mono ?_
  rintro e w1 ⟨rfl, rfl⟩
  clear RC
  go_wp2
  go_ret
  exact ⟨rfl, keep_alloc _ _ _⟩

set_option maxRecDepth 100000 in
theorem move_refused (dp : Value) (dn : Bool) (n t : ByteArray) (w : World) (h : DownIs w dp dn) (hr : refN dn [n, t] ≠ 0) : Calls Tryz.prog 155 #[dp, .string n, .string t] w fun e w' => e = .returned (.int .i64 (refN dn [n, t])) ∧ Keep (fun _ => False) w w' := by
  have RC := hid (ref_call2 dp dn n t w h)
  have hb : (refN dn [n, t] != 0) = true := by rw [bne_iff_ne]; exact hr
  generalize refN dn [n, t] = e at *
  clear h hr
  go_enter Tryz.func155, Tryz.ntmps155
  go_wp2_with fail
  refine RC.out.mono ?_
  rintro e w1 ⟨rfl, rfl⟩
  clear RC
  go_wp2
  go_ret
  exact ⟨rfl, keep_alloc _ _ _⟩

set_option maxRecDepth 100000 in
theorem remove_refused (dp : Value) (dn : Bool) (n : ByteArray) (w : World) (h : DownIs w dp dn) (hr : refN dn [n] ≠ 0) : Calls Tryz.prog 122 #[dp, .string n] w fun e w' => e = .returned (.int .i64 (refN dn [n])) ∧ Keep (fun _ => False) w w' := by
  have RC := hid (ref_call1 dp dn n w h)
  have hb : (refN dn [n] != 0) = true := by rw [bne_iff_ne]; exact hr
  generalize refN dn [n] = e at *
  clear h hr
  go_enter Tryz.func122, Tryz.ntmps122
  go_wp2_with fail
  refine RC.out.mono ?_
  rintro e w1 ⟨rfl, rfl⟩
  clear RC
  go_wp2
  go_ret
  exact ⟨rfl, keep_alloc _ _ _⟩

set_option maxRecDepth 100000 in
theorem cut_refused (dp : Value) (dn : Bool) (n : ByteArray) (l : Int) (w : World) (h : DownIs w dp dn) (hr : refN dn [n] ≠ 0) : Calls Tryz.prog 148 #[dp, .string n, .int .i64 l] w fun e w' => e = .returned (.int .i64 (refN dn [n])) ∧ Keep (fun _ => False) w w' := by
  have RC := hid (ref_call1 dp dn n w h)
  have hb : (refN dn [n] != 0) = true := by rw [bne_iff_ne]; exact hr
  generalize refN dn [n] = e at *
  clear h hr
  go_enter Tryz.func148, Tryz.ntmps148
  go_wp2_with fail
  refine RC.out.mono ?_
  rintro e w1 ⟨rfl, rfl⟩
  clear RC
  go_wp2
  go_ret
  exact ⟨rfl, keep_alloc _ _ _⟩

set_option maxRecDepth 100000 in
theorem read_refused (dp : Value) (dn : Bool) (n : ByteArray) (w : World) (h : DownIs w dp dn) (hr : refN dn [n] ≠ 0) : Calls Tryz.prog 42 #[dp, .string n] w fun e w' => e = .returned (.tuple #[.string ⟨#[]⟩, .int .i64 (refN dn [n])]) ∧ Keep (fun _ => False) w w' := by
  have RC := hid (ref_call1 dp dn n w h)
  have hb : (refN dn [n] != 0) = true := by rw [bne_iff_ne]; exact hr
  generalize refN dn [n] = e at *
  clear h hr
  go_enter Tryz.func42, Tryz.ntmps42
  go_wp2_with fail
  refine RC.out.mono ?_
  rintro e w1 ⟨rfl, rfl⟩
  clear RC
  go_wp2
  go_ret2
  exact ⟨rfl, keep_alloc _ _ _⟩
end Go.Proofs.YtefbioainibmaaaGreatDoor
namespace Go.Proofs.YtefbioainibmaaaGreatDoor
open Go.RowKit Go.Maps
set_option linter.unusedVariables false
set_option linter.unusedSimpArgs false

/-- a text of these bytes -/
abbrev tx (l : Bs) : ByteArray := ⟨l.toArray⟩
theorem tx_list (l : Bs) : (tx l).data.toList = l := by simp
theorem refN1 {l : Bs} (h : nameOk l = true) : refN false [tx l] = 0 := by unfold refN; simp [h]
theorem refN2 {l m : Bs} (h : nameOk l = true) (h2 : nameOk m = true) : refN false [tx l, tx m] = 0 := by unfold refN; simp [h, h2]
theorem nameOk_len {l : Bs} (h : nameOk l = true) : l.length ≤ 80 := by unfold nameOk at h; simp at h; exact h.1.2

theorem Left.from {w W w' : World} {c : Nat → Nat} {p : Nat} {d : Ds} (k : Keep (fun _ => False) w W) (h : Left W c p d w') : Left w c p d w' := by
  obtain ⟨⟨c', hD, hc⟩, hK⟩ := h
  exact ⟨⟨c', hD, fun j hj => hc j (Nat.lt_of_lt_of_le hj k.size)⟩, (k.mono (fun _ _ h => h.elim)).trans hK⟩
theorem left_same {w w' : World} {c : Nat → Nat} {p : Nat} {d : Ds} (h : DiskIs w c p d) (k : Keep (fun _ => False) w w') : Left w c p d w' :=
  ⟨⟨c, h.keep k (fun _ _ => rfl) (fun _ _ h => h.elim), fun _ _ => rfl⟩, k.mono (fun _ _ h => h.elim)⟩
theorem DiskIs.cells {w : World} {c : Nat → Nat} {p : Nat} {d : Ds} (h : DiskIs w c p d) : w.cell? ⟨p, 1, none⟩ = some (.int .i64 (tot d.now)) ∧ w.cell? ⟨p, 5, none⟩ = some (.int .i64 d.n) ∧ w.cell? ⟨p, 7, none⟩ = some (.bool d.bd) ∧ w.cell? ⟨p, 8, none⟩ = some (.int .i64 d.rm) ∧ w.cell? ⟨p, 9, none⟩ = some (.bool d.dn) := by
  obtain ⟨R, h⟩ := h
  refine ⟨?_, h.row.cellAt (by simp [Raw.cs, dC]), h.row.cellAt (by simp [Raw.cs, dC]), h.row.cellAt (by simp [Raw.cs, dC]), h.row.cellAt (by simp [Raw.cs, dC])⟩
  rw [← h.eN]; exact h.row.cellAt (by simp [Raw.cs, dC])
theorem DiskIs.down {w : World} {c : Nat → Nat} {p : Nat} {d : Ds} (h : DiskIs w c p d) : DownIs w (.pointer (some ⟨p, 0, none⟩)) d.dn := .inr ⟨p, rfl, h.cells.2.2.2.2⟩
theorem DiskIs.tot_le {w : World} {c : Nat → Nat} {p : Nat} {d : Ds} (h : DiskIs w c p d) : tot d.now ≤ d.wt ∧ d.now.length ≤ d.S.length + d.ws.length := by
  obtain ⟨R, h⟩ := h
  have hS : Srt d.S := by rw [← h.eS]; exact srt_txts.2 h.sure.srt
  have hmv : ∀ x ∈ d.ws, x.kind = 2 → x.to ≠ x.name := fun x hm => by obtain ⟨i, hi, rfl⟩ := List.getElem_of_mem hm; exact (h.oks i hi).move
  have hb := replay_bounds d.ws d.S hS hmv
  exact ⟨hb.2.1, hb.2.2⟩
/-- a change, at a world a little further on -/
theorem chg_from {w W : World} {c : Nat → Nat} {p : Nat} {d : Ds} (h : DiskIs w c p d) (hdn : d.dn = false) (ch : Chg) (hok : ChOk d.now ch) (k : Keep (fun _ => False) w W) (hM : d.wt + d.S.length + d.ws.length + ch.s.length + ch.name.length + ch.to.length ≤ 70368744177) (hn : d.n ≤ 1152921504606846976) :
    Calls Tryz.prog 86 #[.pointer (some ⟨p, 0, none⟩), cv ch] W fun e w' => e = .returned (.int .i64 (chgD d ch).2) ∧ Left w c p (chgD d ch).1 w' := by
  obtain ⟨R, hR⟩ := h.keep k (c' := c) (fun _ _ => rfl) (fun _ _ h => h.elim)
  exact (change_any p c R d ch W hR hdn hok hM hn).mono fun e w' ⟨he, hL⟩ => ⟨he, hL.from k⟩

/-- what 'Append' makes of a disk, and what is told -/
def appD (d : Ds) (name s : Bs) : Ds × Int :=
  if d.dn then (d, 21) else if nameOk name = false then (d, 20) else if fitB d.bd d.rm (tot d.now) s.length = false then (d, 22) else chgD d ⟨0, name, [], s, 0⟩

set_option maxRecDepth 100000 in
set_option maxHeartbeats 1000000 in
theorem append_any (p : Nat) (c : Nat → Nat) (d : Ds) (name s : Bs) (w : World) (h : DiskIs w c p d) (hM : d.wt + d.S.length + d.ws.length + s.length + name.length ≤ 70368744177) (hn : d.n ≤ 1152921504606846976) :
    Calls Tryz.prog 172 #[.pointer (some ⟨p, 0, none⟩), .string (tx name), .string (tx s)] w fun e w' => e = .returned (.int .i64 (appD d name s).2) ∧ Left w c p (appD d name s).1 w' := by
  have hD := h.down
  by_cases hdn : d.dn = true
  · have e : appD d name s = (d, 21) := by unfold appD; rw [if_pos hdn]
    rw [e]
    refine (append_refused _ _ (tx name) (tx s) w hD (by rw [hdn]; unfold refN; simp)).mono fun e w' ⟨he, hk⟩ => ⟨?_, left_same h hk⟩
    rw [he, hdn]; rfl
  have hdn' : d.dn = false := by simpa using hdn
  by_cases hnm : nameOk name = true
  · rw [hdn'] at hD
    obtain ⟨c1, c5, c7, c8, c9⟩ := (h.keep (keep_alloc (fun _ => False) w (.cells #[.string (tx name)] 9)) (c' := c) (fun _ _ => rfl) (fun _ _ h => h.elim)).cells
    have hkA := keep_alloc (fun _ => False) w (.cells #[.string (tx name)] 9)
    have RC := hid (ref_call1 _ _ (tx name) w hD)
    rw [refN1 hnm] at RC
    have hsz : ((tx s).size : Int) = (s.length : Int) := by rw [size_mk]
    have htl := h.tot_le
    have FI := hid (fits_any p (tot d.now) d.bd d.rm (s.length : Int) _ c1 c7 c8 (by omega) (by omega))
    have hok : ChOk d.now ⟨0, name, [], s, 0⟩ := ⟨by simp, by have := nameOk_len hnm; show name.length ≤ _; unfold maxLen; omega, by simp, by simp, by simp⟩
    have CH : Hid (∀ W, Keep (fun _ => False) w W → Calls _ _ _ _ _) := fun W k => chg_from h hdn' ⟨0, name, [], s, 0⟩ hok k (by simp only [List.length_nil]; omega) hn
    unfold cv chV at CH
    cases hf : fitB d.bd d.rm (tot d.now) s.length with
    | false =>
      have HE : Hid (appD d name s = (d, 22)) := by show _ = _; unfold appD; rw [if_neg hdn, if_neg (by simp [hnm]), if_pos hf]
      rw [hf] at FI
      have HL := hid (fun w' (k : Keep (fun _ => False) w w') => left_same h k)
      have HKA := hid hkA
      rw [HE.out]
      clear h hD hdn hdn' hnm c1 c5 c7 c8 c9 htl hok CH hM hn hf hkA
      go_enter Tryz.func172, Tryz.ntmps172
      go_wp2_with fail
      refine RC.out.mono ?_
      rintro e w1 ⟨rfl, rfl⟩
      clear RC
      go_wp2_with fail
      refine FI.out.mono ?_
      rintro e w2 ⟨rfl, hk2⟩
      have HK2 := hid hk2
      clear FI hk2
      go_wp2
      go_ret
      exact ⟨rfl, HL.out _ (HKA.out.trans HK2.out)⟩
    | true =>
      have HE : Hid (appD d name s = chgD d ⟨0, name, [], s, 0⟩) := by show _ = _; unfold appD; rw [if_neg hdn, if_neg (by simp [hnm]), if_neg (by simp [hf])]
      rw [hf] at FI
      have HKA := hid hkA
      rw [HE.out]
      clear h hD hdn hdn' hnm c1 c5 c7 c8 c9 htl hok hM hn hf hkA HE
      generalize chgD d ⟨0, name, [], s, 0⟩ = r at *
      go_enter Tryz.func172, Tryz.ntmps172
      go_wp2_with fail
      refine RC.out.mono ?_
      rintro e w1 ⟨rfl, rfl⟩
      clear RC
      go_wp2_with fail
      refine FI.out.mono ?_
      rintro e w2 ⟨rfl, hk2⟩
      have HK2 := hid hk2
      clear FI hk2
      go_wp2_with fail
      refine (CH.out w2 (HKA.out.trans HK2.out)).mono ?_
      rintro e w3 ⟨rfl, hL⟩
      have HL := hid hL
      clear CH hL
      go_wp2
      go_ret
      exact ⟨rfl, HL.out⟩
  · have hnm' : nameOk name = false := by simpa using hnm
    have e : appD d name s = (d, 20) := by unfold appD; rw [if_neg hdn, if_pos hnm']
    rw [e]
    refine (append_refused _ _ (tx name) (tx s) w hD (by rw [hdn']; unfold refN; simp [hnm'])).mono fun e w' ⟨he, hk⟩ => ⟨?_, left_same h hk⟩
    rw [he, hdn']; unfold refN; simp [hnm']
end Go.Proofs.YtefbioainibmaaaGreatDoor
namespace Go.Proofs.YtefbioainibmaaaGreatDoor
open Go.RowKit Go.Maps
set_option linter.unusedVariables false
set_option linter.unusedSimpArgs false

/-- the files that are, as the walks take them -/
theorem DiskIs.files {w W : World} {c : Nat → Nat} {p : Nat} {d : Ds} (h : DiskIs w c p d) (k : Keep (fun _ => False) w W) : ∃ mo N, W.cell? ⟨p, 0, none⟩ = some (.map mo) ∧ MapV W mo (vals N) ∧ txts N = d.now ∧ ∀ x ∈ N, BSl W 0 x.2.1 x.2.2 := by
  obtain ⟨R, h⟩ := h.keep k (c' := c) (fun _ _ => rfl) (fun _ _ h => h.elim)
  exact ⟨R.nmo, R.N, h.row.cellAt (by simp [Raw.cs, dC]), h.now.map, h.eN, h.now.row⟩
theorem old_bsl {W : World} {N : List (Bs × FV)} (h : ∀ x ∈ N, BSl W 0 x.2.1 x.2.2) (n : Bs) : BSl W 0 (oldV N n).1 (oldV N n).2 := by
  unfold oldV
  cases hg : kget N n with
  | none => exact BSl.nil W 0
  | some v => exact h _ (kget_mem hg)

/-- what 'Write' makes of a disk, and what is told -/
def wrD (d : Ds) (name s : Bs) : Ds × Int :=
  if d.dn then (d, 21) else if nameOk name = false then (d, 20) else if fitB d.bd d.rm (tot d.now) ((s.length : Int) - (((kget d.now name).getD []).length : Int)) = false then (d, 22) else chgD d ⟨1, name, [], s, 0⟩

set_option maxRecDepth 100000 in
set_option maxHeartbeats 1000000 in
theorem write_any (p : Nat) (c : Nat → Nat) (d : Ds) (name s : Bs) (w : World) (h : DiskIs w c p d) (hM : d.wt + d.S.length + d.ws.length + s.length + name.length ≤ 70368744177) (hn : d.n ≤ 1152921504606846976) :
    Calls Tryz.prog 39 #[.pointer (some ⟨p, 0, none⟩), .string (tx name), .string (tx s)] w fun e w' => e = .returned (.int .i64 (wrD d name s).2) ∧ Left w c p (wrD d name s).1 w' := by
  have hD := h.down
  by_cases hdn : d.dn = true
  · have e : wrD d name s = (d, 21) := by unfold wrD; rw [if_pos hdn]
    rw [e]
    refine (write_refused _ _ (tx name) (tx s) w hD (by rw [hdn]; unfold refN; simp)).mono fun e w' ⟨he, hk⟩ => ⟨?_, left_same h hk⟩
    rw [he, hdn]; rfl
  have hdn' : d.dn = false := by simpa using hdn
  by_cases hnm : nameOk name = true
  · rw [hdn'] at hD
    have hkA := keep_alloc (fun _ => False) w (.cells #[.string (tx name)] 9)
    obtain ⟨c1, c5, c7, c8, c9⟩ := (h.keep hkA (c' := c) (fun _ _ => rfl) (fun _ _ h => h.elim)).cells
    obtain ⟨mo, N, c0, hmv, hN, hrow⟩ := h.files hkA
    have RC := hid (ref_call1 _ _ (tx name) w hD)
    rw [refN1 hnm] at RC
    have hsz : ((tx s).size : Int) = (s.length : Int) := by rw [size_mk]
    have htl := h.tot_le
    have hnl := nameOk_len hnm
    have hlk := mapV_look hmv (tx name) (by rw [size_mk]; unfold maxLen; omega)
    rw [tx_list, oldV_vals] at hlk
    have hbo := old_bsl hrow name
    obtain ⟨ad, cap, hov⟩ := hbo.size
    rw [hov] at hlk
    have hold : (kget d.now name).getD [] = (oldV N name).2 := by rw [← hN, oldV_txts]
    have holdl : (oldV N name).2.length ≤ tot d.now := by
      rw [← hold]
      cases hg : kget d.now name with
      | none => simp
      | some b => exact tot_get hg
    have hw : wrap64 ((s.length : Int) - ((oldV N name).2.length : Int)) = (s.length : Int) - ((oldV N name).2.length : Int) := IntWalk.wrap64_in _ (by omega)
    have FI := hid (fits_any p (tot d.now) d.bd d.rm ((s.length : Int) - ((oldV N name).2.length : Int)) _ c1 c7 c8 (by omega) (by omega))
    have hok : ChOk d.now ⟨1, name, [], s, 0⟩ := ⟨by simp, by show name.length ≤ _; unfold maxLen; omega, by simp, by simp, by simp⟩
    have CH : Hid (∀ W, Keep (fun _ => False) w W → Calls _ _ _ _ _) := fun W k => chg_from h hdn' ⟨1, name, [], s, 0⟩ hok k (by simp only [List.length_nil]; omega) hn
    unfold cv chV at CH
    have hwe : wrD d name s = if fitB d.bd d.rm (tot d.now) ((s.length : Int) - ((oldV N name).2.length : Int)) = false then (d, 22) else chgD d ⟨1, name, [], s, 0⟩ := by unfold wrD; rw [if_neg hdn, if_neg (by simp [hnm]), hold]
    generalize (oldV N name).2.length = ol at *
    cases hf : fitB d.bd d.rm (tot d.now) ((s.length : Int) - (ol : Int)) with
    | false =>
      have HE : Hid (wrD d name s = (d, 22)) := by show _ = _; rw [hwe, if_pos hf]
      rw [hf] at FI
      have HL := hid (fun w' (k : Keep (fun _ => False) w w') => left_same h k)
      have HKA := hid hkA
      rw [HE.out]
      clear h hD hdn hdn' hnm c1 c5 c7 c8 c9 htl hok CH hM hn hf hkA hwe hold holdl hov hbo hmv hN hrow hnl
      go_enter Tryz.func39, Tryz.ntmps39
      go_wp2_with fail
      refine RC.out.mono ?_
      rintro e w1 ⟨rfl, rfl⟩
      clear RC
      go_wp2_with fail
      refine FI.out.mono ?_
      rintro e w2 ⟨rfl, hk2⟩
      have HK2 := hid hk2
      clear FI hk2
      go_wp2
      go_ret
      exact ⟨rfl, HL.out _ (HKA.out.trans HK2.out)⟩
    | true =>
      have HE : Hid (wrD d name s = chgD d ⟨1, name, [], s, 0⟩) := by show _ = _; rw [hwe, if_neg (by simp [hf])]
      rw [hf] at FI
      have HKA := hid hkA
      rw [HE.out]
      clear h hD hdn hdn' hnm c1 c5 c7 c8 c9 htl hok hM hn hf hkA HE hwe hold holdl hov hbo hmv hN hrow hnl
      generalize chgD d ⟨1, name, [], s, 0⟩ = r at *
      go_enter Tryz.func39, Tryz.ntmps39
      go_wp2_with fail
      refine RC.out.mono ?_
      rintro e w1 ⟨rfl, rfl⟩
      clear RC
      go_wp2_with fail
      refine FI.out.mono ?_
      rintro e w2 ⟨rfl, hk2⟩
      have HK2 := hid hk2
      clear FI hk2 hlk c0
      go_wp2_with fail
      refine (CH.out w2 (HKA.out.trans HK2.out)).mono ?_
      rintro e w3 ⟨rfl, hL⟩
      have HL := hid hL
      clear CH hL
      go_wp2
      go_ret
      exact ⟨rfl, HL.out⟩
  · have hnm' : nameOk name = false := by simpa using hnm
    have e : wrD d name s = (d, 20) := by unfold wrD; rw [if_neg hdn, if_pos hnm']
    rw [e]
    refine (write_refused _ _ (tx name) (tx s) w hD (by rw [hdn']; unfold refN; simp [hnm'])).mono fun e w' ⟨he, hk⟩ => ⟨?_, left_same h hk⟩
    rw [he, hdn']; unfold refN; simp [hnm']

/-- what 'Read' tells -/
def rdD (d : Ds) (name : Bs) : Bs × Int :=
  if d.dn then ([], 21) else if nameOk name = false then ([], 20) else match kget d.now name with
    | none => ([], 4)
    | some b => (b, 0)

set_option maxRecDepth 100000 in
set_option maxHeartbeats 1000000 in
theorem read_any (p : Nat) (c : Nat → Nat) (d : Ds) (name : Bs) (w : World) (h : DiskIs w c p d) :
    Calls Tryz.prog 42 #[.pointer (some ⟨p, 0, none⟩), .string (tx name)] w fun e w' => e = .returned (.tuple #[.string (tx (rdD d name).1), .int .i64 (rdD d name).2]) ∧ Keep (fun _ => False) w w' := by
  have hD := h.down
  by_cases hdn : d.dn = true
  · have e : rdD d name = ([], 21) := by unfold rdD; rw [if_pos hdn]
    rw [e]
    refine (read_refused _ _ (tx name) w hD (by rw [hdn]; unfold refN; simp)).mono fun e w' ⟨he, hk⟩ => ⟨?_, hk⟩
    rw [he, hdn]; rfl
  have hdn' : d.dn = false := by simpa using hdn
  by_cases hnm : nameOk name = true
  · rw [hdn'] at hD
    have hkA := keep_alloc (fun _ => False) w (.cells #[.string (tx name)] 9)
    obtain ⟨mo, N, c0, hmv, hN, hrow⟩ := h.files hkA
    have RC := hid (ref_call1 _ _ (tx name) w hD)
    rw [refN1 hnm] at RC
    have hnl := nameOk_len hnm
    have hns : (tx name).size ≤ maxLen := by rw [size_mk]; unfold maxLen; omega
    have hlk := mapV_look hmv (tx name) hns
    have HA := hid (has_any p mo (vals N) (tx name) _ c0 hmv hns)
    rw [tx_list, oldV_vals] at hlk
    rw [tx_list, vals_get] at HA
    have htxt := (old_bsl hrow name).text
    have hre : rdD d name = match kget d.now name with | none => ([], 4) | some b => (b, 0) := by unfold rdD; rw [if_neg hdn, if_neg (by simp [hnm])]
    have hkn : kget d.now name = (kget N name).map (·.2) := by rw [← hN, txts_get]
    have HKA := hid hkA
    cases hg : kget N name with
    | none =>
      rw [hg] at HA hkn
      have hre2 : rdD d name = ([], 4) := by rw [hre, hkn]; rfl
      rw [hre2]
      clear hre2
      clear h hD hdn hdn' hnm hmv hN hrow hnl hns hre hkn hkA hlk htxt
      go_enter Tryz.func42, Tryz.ntmps42
      go_wp2_with fail
      refine RC.out.mono ?_
      rintro e w1 ⟨rfl, rfl⟩
      clear RC
      go_wp2_with fail
      refine HA.out.mono ?_
      rintro e w2 ⟨rfl, rfl⟩
      clear HA
      go_wp2
      go_ret2
      exact ⟨rfl, HKA.out⟩
    | some x =>
      have ho : oldV N name = x := by unfold oldV; rw [hg]; rfl
      rw [hg] at HA hkn
      rw [ho] at hlk htxt
      obtain ⟨v, b⟩ := x
      have hre2 : rdD d name = (b, 0) := by rw [hre, hkn]; rfl
      rw [hre2]
      clear hre2
      clear h hD hdn hdn' hnm hmv hN hrow hnl hns hre hkn hkA ho hg
      go_enter Tryz.func42, Tryz.ntmps42
      go_wp2_with fail
      refine RC.out.mono ?_
      rintro e w1 ⟨rfl, rfl⟩
      clear RC
      go_wp2_with fail
      refine HA.out.mono ?_
      rintro e w2 ⟨rfl, rfl⟩
      clear HA
      go_wp2
      go_ret2
      exact ⟨rfl, HKA.out⟩
  · have hnm' : nameOk name = false := by simpa using hnm
    have e : rdD d name = ([], 20) := by unfold rdD; rw [if_neg hdn, if_pos hnm']
    rw [e]
    refine (read_refused _ _ (tx name) w hD (by rw [hdn']; unfold refN; simp [hnm'])).mono fun e w' ⟨he, hk⟩ => ⟨?_, hk⟩
    rw [he, hdn']; unfold refN; simp [hnm']

/-- what 'Move' makes of a disk, and what is told -/
def mvD (d : Ds) (name to : Bs) : Ds × Int :=
  if d.dn then (d, 21) else if (nameOk name && nameOk to) = false then (d, 20) else if (kget d.now name).isSome = false then (d, 4) else if name = to then (d, 1) else chgD d ⟨2, name, to, [], 0⟩
theorem tx_beq (a b : Bs) : ((tx a).toList == (tx b).toList) = decide (a = b) := by
  rw [ByteArray.toList_eq, ByteArray.toList_eq, tx_list, tx_list, Bool.eq_iff_iff]
  simp

set_option maxRecDepth 100000 in
set_option maxHeartbeats 1000000 in
theorem move_any (p : Nat) (c : Nat → Nat) (d : Ds) (name to : Bs) (w : World) (h : DiskIs w c p d) (hM : d.wt + d.S.length + d.ws.length + name.length + to.length ≤ 70368744177) (hn : d.n ≤ 1152921504606846976) :
    Calls Tryz.prog 155 #[.pointer (some ⟨p, 0, none⟩), .string (tx name), .string (tx to)] w fun e w' => e = .returned (.int .i64 (mvD d name to).2) ∧ Left w c p (mvD d name to).1 w' := by
  have hD := h.down
  by_cases hdn : d.dn = true
  · have e : mvD d name to = (d, 21) := by unfold mvD; rw [if_pos hdn]
    rw [e]
    refine (move_refused _ _ (tx name) (tx to) w hD (by rw [hdn]; unfold refN; simp)).mono fun e w' ⟨he, hk⟩ => ⟨?_, left_same h hk⟩
    rw [he, hdn]; rfl
  have hdn' : d.dn = false := by simpa using hdn
  by_cases hnm : (nameOk name && nameOk to) = true
  · have hnm1 : nameOk name = true := by simp at hnm; exact hnm.1
    have hnm2 : nameOk to = true := by simp at hnm; exact hnm.2
    rw [hdn'] at hD
    have hkA := keep_alloc (fun _ => False) w (.cells #[.string (tx name), .string (tx to)] 9)
    obtain ⟨mo, N, c0, hmv, hN, hrow⟩ := h.files hkA
    have RC := hid (ref_call2 _ _ (tx name) (tx to) w hD)
    rw [refN2 hnm1 hnm2] at RC
    have hnl := nameOk_len hnm1
    have hnl2 := nameOk_len hnm2
    have hns : (tx name).size ≤ maxLen := by rw [size_mk]; unfold maxLen; omega
    have HA := hid (has_any p mo (vals N) (tx name) _ c0 hmv hns)
    have hkn : (kget (vals N) name).isSome = (kget d.now name).isSome := by rw [← hN, txts_get, vals_get]; cases kget N name <;> rfl
    rw [tx_list, hkn] at HA
    have hbe := tx_beq name to
    have HKA := hid hkA
    have HL := hid (fun w' (k : Keep (fun _ => False) w w') => left_same h k)
    cases hg : (kget d.now name).isSome with
    | false =>
      have HE : Hid (mvD d name to = (d, 4)) := by show _ = _; unfold mvD; rw [if_neg hdn, if_neg (by simp [hnm1, hnm2]), if_pos hg]
      rw [hg] at HA
      rw [HE.out]
      clear h hD hdn hdn' hnm hnm1 hnm2 hmv hN hrow hnl hnl2 hns hkn hkA hM hn hg hbe
      go_enter Tryz.func155, Tryz.ntmps155
      go_wp2_with fail
      refine RC.out.mono ?_
      rintro e w1 ⟨rfl, rfl⟩
      clear RC
      go_wp2_with fail
      refine HA.out.mono ?_
      rintro e w2 ⟨rfl, rfl⟩
      clear HA
      go_wp2
      go_ret
      exact ⟨rfl, HL.out _ HKA.out⟩
    | true =>
      rw [hg] at HA
      by_cases heq : name = to
      · have HE : Hid (mvD d name to = (d, 1)) := by show _ = _; unfold mvD; rw [if_neg hdn, if_neg (by simp [hnm1, hnm2]), if_neg (by simp [hg]), if_pos heq]
        rw [decide_eq_true heq] at hbe
        rw [HE.out]
        clear h hD hdn hdn' hnm hnm1 hnm2 hmv hN hrow hnl hnl2 hns hkn hkA hM hn hg heq HE
        generalize tx name = A at *
        generalize tx to = B at *
        go_enter Tryz.func155, Tryz.ntmps155
        go_wp2_with fail
        refine RC.out.mono ?_
        rintro e w1 ⟨rfl, rfl⟩
        clear RC
        go_wp2_with fail
        refine HA.out.mono ?_
        rintro e w2 ⟨rfl, rfl⟩
        clear HA
        go_wp2
        go_ret
        exact ⟨rfl, HL.out _ HKA.out⟩
      · have HE : Hid (mvD d name to = chgD d ⟨2, name, to, [], 0⟩) := by show _ = _; unfold mvD; rw [if_neg hdn, if_neg (by simp [hnm1, hnm2]), if_neg (by simp [hg]), if_neg heq]
        have hok : ChOk d.now ⟨2, name, to, [], 0⟩ := ⟨by simp, by show name.length ≤ _; unfold maxLen; omega, by show to.length ≤ _; unfold maxLen; omega, fun _ e => heq e.symm, by simp⟩
        have CH : Hid (∀ W, Keep (fun _ => False) w W → Calls Tryz.prog 86 #[.pointer (some ⟨p, 0, none⟩), .agg #[.int .i64 2, .string (tx name), .string (tx to), .string ⟨#[]⟩, .int .i64 0]] W fun e w' => e = .returned (.int .i64 (chgD d ⟨2, name, to, [], 0⟩).2) ∧ Left w c p (chgD d ⟨2, name, to, [], 0⟩).1 w') := fun W k => chg_from h hdn' ⟨2, name, to, [], 0⟩ hok k (by simp only [List.length_nil]; omega) hn
        rw [decide_eq_false heq] at hbe
        rw [HE.out]
        clear h hD hdn hdn' hnm hnm1 hnm2 hmv hN hrow hnl hnl2 hns hkn hkA hM hn hg heq HE hok HL
        generalize chgD d ⟨2, name, to, [], 0⟩ = r at *
        generalize tx name = A at *
        generalize tx to = B at *
        go_enter Tryz.func155, Tryz.ntmps155
        go_wp2_with fail
        refine RC.out.mono ?_
        rintro e w1 ⟨rfl, rfl⟩
        clear RC
        go_wp2_with fail
        refine HA.out.mono ?_
        rintro e w2 ⟨rfl, rfl⟩
        clear HA
        go_wp2_with fail
        refine (CH.out _ HKA.out).mono ?_
        rintro e w3 ⟨rfl, hL⟩
        have HL := hid hL
        clear CH hL
        go_wp2
        go_ret
        exact ⟨rfl, HL.out⟩
  · have hnm' : (nameOk name && nameOk to) = false := by simpa using hnm
    have e : mvD d name to = (d, 20) := by unfold mvD; rw [if_neg hdn, if_pos hnm']
    have hr : refN false [tx name, tx to] = 20 := by unfold refN; simp only [Bool.false_eq_true, if_false, List.all_cons, List.all_nil, Bool.and_true, tx_list, hnm']
    rw [e]
    refine (move_refused _ _ (tx name) (tx to) w hD (by rw [hdn', hr]; decide)).mono fun e w' ⟨he, hk⟩ => ⟨?_, left_same h hk⟩
    rw [he, hdn', hr]
end Go.Proofs.YtefbioainibmaaaGreatDoor
namespace Go.Proofs.YtefbioainibmaaaGreatDoor
open Go.RowKit Go.Maps
set_option linter.unusedVariables false
set_option linter.unusedSimpArgs false

/-- a disk without files -/
def d0 : Ds := ⟨[], [], 0, [], false, 0, false⟩
/-- the colors of a world in which one block is a disk's -/
def c0 (p : Nat) (k : Nat) : Nat := if k = p then 0 else 7
theorem fil_none (w : World) (c : Nat → Nat) (mc : Nat) : FilIs w c mc none [] := ⟨.inl ⟨rfl, rfl⟩, fun b e => (by cases e), fun x hx => (by cases hx), fun x hx => (by cases hx), fun x hx => (by cases hx), srt_nil⟩

set_option maxRecDepth 100000 in
theorem new_any (w : World) : Calls Tryz.prog 17 #[] w fun e w' => e = .returned (.pointer (some ⟨w.heap.size, 0, none⟩)) ∧ DiskIs w' (c0 w.heap.size) w.heap.size d0 ∧ Keep (fun _ => False) w w' := by
  have HD : Hid (DiskIs (w.alloc (.cells #[.map none, .int .i64 0, .map none, .int .i64 0, .slice none 0 0, .int .i64 0, .map none, .bool false, .int .i64 0, .bool false] 124)) (c0 w.heap.size) w.heap.size d0) := by
    refine ⟨⟨none, none, [], [], .slice none 0 0, none⟩, ?_, if_pos rfl, fil_none _ _ _, fil_none _ _ _, rfl, rfl, fun y hy => by simp at hy, ⟨rfl, .inl ⟨rfl, rfl⟩⟩, fun g e => by simp [Value.ownBlock] at e, .inl ⟨rfl, rfl⟩, fun m _ => rfl, fun i hi => by simp [d0] at hi, fun _ => rfl, fun y hy => by simp at hy⟩
    exact heap_alloc_new _ _
  go_enter Tryz.func17, Tryz.ntmps17
  go_wp2
  go_ret
  exact ⟨rfl, HD.out, keep_alloc _ _ _⟩

theorem Left.trans {w w1 w2 : World} {c c1 : Nat → Nat} {p : Nat} {d : Ds} (hc : ∀ k, k < w.heap.size → c1 k = c k) (hk : Keep (fun k => c k < 6) w w1) (h : Left w1 c1 p d w2) : Left w c p d w2 := by
  obtain ⟨⟨c', hD, hc'⟩, hK⟩ := h
  have hs := hk.size
  exact ⟨⟨c', hD, fun k hk => by rw [hc' k (by omega), hc k hk]⟩, hk.then hK fun j hj e => by rw [← hc j hj]; exact e⟩

set_option maxRecDepth 100000 in
theorem up_any (p : Nat) (c : Nat → Nat) (d : Ds) (w : World) (h : DiskIs w c p d) : Calls Tryz.prog 24 #[.pointer (some ⟨p, 0, none⟩)] w fun e w' => e = .returned (.bool d.dn) ∧ Left w c p { d with dn := false } w' := by
  obtain ⟨R, h⟩ := h
  have c9 : w.cell? ⟨p, 9, none⟩ = some (.bool d.dn) := h.row.cellAt (by simp [Raw.cs, dC])
  have f9 := h.row.frozen (o := 9)
  have HL : Hid (Left w c p { d with dn := false } (w.setCell ⟨p, 9, none⟩ (.bool false))) := by
    have k := keep_setCell w p 9 (.bool false)
    have hcp := h.cp
    have hr := h.row.set 9 (.bool false)
    refine ⟨⟨c, ⟨R, ?_, h.cp, h.now.keep' k (fun _ _ => rfl) (fun j _ e => by rw [e]; omega), h.sure.keep' k (fun _ _ => rfl) (fun j _ e => by rw [e]; omega), h.eS, h.eN, h.safe, k.ownsRow h.wrow (fun g e e2 => by have := h.wcol g e; rw [e2] at this; omega), h.wcol, h.fall.keep k (fun _ _ => rfl) (fun j _ e => by rw [e]; omega), h.unt, h.oks, h.wnil, h.xap⟩, fun _ _ => rfl⟩, k.mono fun j _ e => by rw [e]; omega⟩
    have e : (R.cs d).set 9 (.bool false) = R.cs { d with dn := false } := by simp [Raw.cs, dC]
    rw [← e]; exact hr
  clear h
  go_enter Tryz.func24, Tryz.ntmps24
  go_wp2
  go_ret
  exact ⟨rfl, HL.out⟩
/-- a loss of power, whether the disk is down or not -/
theorem fail_any (p : Nat) (c : Nat → Nat) (d : Ds) (keep torn : Int) (w : World) (h : DiskIs w c p d) (hM : d.wt + d.S.length + d.ws.length ≤ 70368744177664) :
    Calls Tryz.prog 23 #[.pointer (some ⟨p, 0, none⟩), .int .i64 keep, .int .i64 torn] w fun e w' => e = .returned (.tuple #[]) ∧ Left w c p (failD d keep torn) w' := by
  by_cases hdn : d.dn = true
  · have hd := h.down
    rw [hdn] at hd
    refine (fail_down _ keep torn w hd).mono fun e w' ⟨he, hw⟩ => ⟨he, ?_⟩
    subst hw
    have e : failD d keep torn = d := by unfold failD; rw [if_pos hdn]
    rw [e]; exact left_same h (Keep.refl _ _)
  · obtain ⟨R, hR⟩ := h
    exact fail_up p c R d keep torn w hR.f (by simpa using hdn) hM
end Go.Proofs.YtefbioainibmaaaGreatDoor
namespace Go.Proofs.YtefbioainibmaaaGreatDoor
open Go.RowKit Go.Maps
set_option linter.unusedVariables false
set_option linter.unusedSimpArgs false

section
variable {α : Type}
def takeK (L N : List (Bs × α)) (n : Bs) : List (Bs × α) := match kget N n with
  | some v => kput L n v
  | none => kdel L n
theorem takeK_get (L N : List (Bs × α)) (n m : Bs) : kget (takeK L N n) m = if m = n then kget N m else kget L m := by
  unfold takeK
  by_cases h : m = n
  · subst h
    rw [if_pos rfl]
    cases hg : kget N m with
    | some v => exact kget_put_same L m v
    | none => exact kget_del_same L m
  · rw [if_neg h]
    cases hg : kget N n with
    | some v => exact kget_put_other L v (fun e => h e.symm)
    | none => exact kget_del_other L (fun e => h e.symm)
theorem srt_takeK {L : List (Bs × α)} (h : Srt L) (N : List (Bs × α)) (n : Bs) : Srt (takeK L N n) := by
  unfold takeK
  split
  · exact srt_kput h _ _
  · exact srt_kdel h _
theorem len_takeK (L N : List (Bs × α)) (n : Bs) : (takeK L N n).length ≤ L.length + 1 := by
  unfold takeK
  split
  · exact len_kput _ _ _
  · exact Nat.le_trans (len_kdel _ _) (Nat.le_succ _)
end
theorem vals_take (L N : List (Bs × FV)) (n : Bs) : vals (takeK L N n) = takeK (vals L) (vals N) n := by
  unfold takeK
  rw [vals_get]
  cases kget N n with
  | some v => exact vals_put L n v
  | none => exact vals_del L n

/-- what 'take' leaves -/
def TakePost (pb po : Nat) (cs : List Value) (t : TypeId) (mo : Option Nat) (u : Int) (L N : List (Bs × Value)) (n : Bs) (w w' : World) : Prop :=
  ∃ mo', (mo' = mo ∨ ∃ b, mo' = some b ∧ w.heap.size ≤ b) ∧ (∀ b, mo' = some b → b ≠ pb) ∧ RowIs w' pb ((cs.set po (.map mo')).set (po + 1) (.int .i64 (wrap64 (u + (lenV ((kget N n).getD (.slice none 0 0)) - lenV ((kget L n).getD (.slice none 0 0))))))) t ∧ MapV w' mo' (takeK L N n) ∧ Keep (fun k => k = pb ∨ mo = some k) w w'
theorem wrap_add (a b : Int) : wrap64 (a + wrap64 b) = wrap64 (a + b) := by unfold wrap64; omega

set_option maxRecDepth 100000 in
set_option maxHeartbeats 1000000 in
theorem take_any (pb po : Nat) (cs : List Value) (t : TypeId) (mo : Option Nat) (u : Int) (L : List (Bs × Value)) (nmo : Option Nat) (nu : Int) (N : List (Bs × Value)) (s : ByteArray) (w : World) (hrow : RowIs w pb cs t) (h0 : cs[po]? = some (.map mo)) (h1 : cs[po + 1]? = some (.int .i64 u))
    (hm : MapV w mo L) (hN : MapV w nmo N) (hne : ∀ b, mo = some b → b ≠ pb) (hsl : ∀ x ∈ L, IsSl x.2) (hsn : ∀ x ∈ N, IsSl x.2) (hs : s.size ≤ maxLen) (hl : L.length < maxLen) :
    Calls Tryz.prog 87 #[.pointer (some ⟨pb, po, none⟩), .agg #[.map nmo, .int .i64 nu], .string s] w fun e w' => e = .returned (.tuple #[]) ∧ TakePost pb po cs t mo u L N s.data.toList w w' := by
  have ka := keep_alloc (fun _ => False) w (.cells #[.map nmo, .int .i64 nu] 120)
  have hrA := hrow.keep ka (fun h => h)
  have hmA := ka.mapV hm (fun _ _ h => h)
  have hlk := mapV_lookok (ka.mapV hN (fun _ _ h => h)) s hs
  cases hg : kget N s.data.toList with
  | some v =>
    obtain ⟨ad, n, cp, rfl⟩ := hsn _ (kget_mem hg)
    rw [hg] at hlk
    simp only [Option.getD_some, Option.isSome_some] at hlk
    have SET : Hid (Calls Tryz.prog 115 #[.pointer (some ⟨pb, po, none⟩), .string s, .slice ad n cp] (w.alloc (.cells #[.map nmo, .int .i64 nu] 120)) fun e w' => e = .returned (.tuple #[]) ∧ TakePost pb po cs t mo u L N s.data.toList w w') := by
      refine (set_any pb po cs t mo u L s ad n cp _ hrA h0 h1 hmA hne hsl hs hl).mono fun e w' ⟨he, b, hb, hbp, hr, hm', hk⟩ => ⟨he, some b, ?_, fun b' e => by injection e with e; omega, ?_, .inr ⟨b, rfl, ?_⟩, (ka.mono (fun _ _ h => h.elim)).trans hk⟩
      · rcases hb with e | e
        · exact .inl e.symm
        · exact .inr ⟨b, rfl, by rw [e]; simp⟩
      · rw [wrap_add] at hr
        rw [hg]; exact hr
      · have e : takeK L N s.data.toList = kput L s.data.toList (.slice ad n cp) := by unfold takeK; rw [hg]
        rw [e]; exact hm'
    clear hrow h0 h1 hm hN hne hsl hsn hs hl ka hrA hmA hg
    go_enter Tryz.func87, Tryz.ntmps87
    go_wp2_with fail
    refine SET.out.mono ?_
    rintro e w2 ⟨rfl, hA⟩
    have HA := hid hA
    clear SET hlk hA
    go_wp2
    go_end0
    exact ⟨rfl, HA.out⟩
  | none =>
    rw [hg] at hlk
    simp only [Option.getD_none, Option.isSome_none] at hlk
    have DR : Hid (Calls Tryz.prog 116 #[.pointer (some ⟨pb, po, none⟩), .string s] (w.alloc (.cells #[.map nmo, .int .i64 nu] 120)) fun e w' => e = .returned (.tuple #[]) ∧ TakePost pb po cs t mo u L N s.data.toList w w') := by
      refine (drop_any pb po cs t mo u L s _ hrA h0 h1 hmA hne hsl hs).mono fun e w' ⟨he, hr, hm', hk⟩ => ⟨he, mo, .inl rfl, hne, ?_, ?_, (ka.mono (fun _ _ h => h.elim)).trans hk⟩
      · rw [set_same h0, hg]
        have e : u + ((lenV ((none : Option Value).getD (.slice none 0 0)) : Nat) - (lenV ((kget L s.data.toList).getD (.slice none 0 0)) : Nat) : Int) = u - (lenV ((kget L s.data.toList).getD (.slice none 0 0)) : Nat) := by
          show u + (((0 : Nat) : Int) - _) = _
          omega
        rw [e]; exact hr
      · have e : takeK L N s.data.toList = kdel L s.data.toList := by unfold takeK; rw [hg]
        rw [e]; exact hm'
    clear hrow h0 h1 hm hN hne hsl hsn hs hl ka hrA hmA hg
    go_enter Tryz.func87, Tryz.ntmps87
    go_wp2_with fail
    refine DR.out.mono ?_
    rintro e w2 ⟨rfl, hA⟩
    have HA := hid hA
    clear DR hlk hA
    go_wp2
    go_end0
    exact ⟨rfl, HA.out⟩
end Go.Proofs.YtefbioainibmaaaGreatDoor
namespace Go.Proofs.YtefbioainibmaaaGreatDoor
open Go.RowKit Go.Maps
set_option linter.unusedVariables false
set_option linter.unusedSimpArgs false

/-- the names of ts are made sure -/
def SyncAt (w : World) (c : Nat → Nat) (p : Nat) (R : Raw) (d : Ds) (ts : List Bs) (wr : World) : Prop :=
  ∃ mo1 L1, RowIs wr p (((R.cs d).set 2 (.map mo1)).set 3 (.int .i64 (wrap64 (tot (txts L1) : Nat)))) 124 ∧ MapV wr mo1 (vals L1) ∧ Srt L1 ∧ (∀ m, kget L1 m = if m ∈ ts then kget R.N m else kget R.SL m) ∧ L1.length ≤ R.SL.length + ts.length ∧
    (∀ b, mo1 = some b → b ≠ p ∧ (b < w.heap.size → c b = 2)) ∧ Keep (fun k => k = p ∨ c k = 2) w wr

theorem tot_take {L N : List (Bs × FV)} (h : Srt L) (n : Bs) (hN : lenV (oldV N n).1 = (oldV N n).2.length) (hL : lenV (oldV L n).1 = (oldV L n).2.length) : ((tot (txts (takeK L N n)) : Nat) : Int) = (tot (txts L) : Nat) + ((lenV (oldV N n).1 : Int) - (lenV (oldV L n).1 : Int)) := by
  rw [hN, hL]
  unfold takeK
  cases hg : kget N n with
  | some v =>
    have h1 := tot_kput (srt_txts.2 h) n v.2
    rw [oldV_txts] at h1
    have h2 : oldV N n = v := by unfold oldV; rw [hg]; rfl
    simp only
    rw [txts_put, h2]
    omega
  | none =>
    have h1 := tot_kdel (srt_txts.2 h) n
    rw [oldV_txts] at h1
    have h2 : oldV N n = (.slice none 0 0, []) := by unfold oldV; rw [hg]; rfl
    simp only
    rw [txts_del, h2]
    simp only [List.length_nil]
    omega

theorem sync_step {w wr W : World} {c : Nat → Nat} {p : Nat} {R : Raw} {d : Ds} (h : DiskR w c p R d) (ts : List Bs) (ha : SyncAt w c p R d ts wr) (name : Bs) (hn : name.length ≤ maxLen) (hlen : R.SL.length + ts.length < maxLen) (k : Keep (fun _ => False) wr W) :
    Calls Tryz.prog 87 #[.pointer (some ⟨p, 2, none⟩), .agg #[.map R.nmo, .int .i64 (tot (txts R.N))], .string (tx name)] W fun e w' => e = .returned (.tuple #[]) ∧ (∀ g o v, g ≠ p → W.cell? ⟨g, o, none⟩ = some v → w'.cell? ⟨g, o, none⟩ = some v) ∧ w'.cell? ⟨p, 0, none⟩ = some (.map R.nmo) ∧ w'.cell? ⟨p, 1, none⟩ = some (.int .i64 (tot (txts R.N))) ∧ SyncAt w c p R d (ts ++ [name]) w' := by
  obtain ⟨mo1, L1, hr, hm, hs, hg, hl, hmo, hk⟩ := ha
  have hp := h.row.lt
  have hcp := h.cp
  have hK : Keep (fun k => k = p ∨ c k = 2) w W := hk.trans (k.mono (fun _ _ h => h.elim))
  have hnow : FilIs W c 1 R.nmo R.N := h.now.keep' hK (fun _ _ => rfl) (fun j _ e => by rcases e with rfl | e <;> omega)
  have hsz := hk.size
  have hszW := k.size
  have hvals : ∀ m, ∀ v, kget L1 m = some v → BSl w 0 v.1 v.2 := by
    intro m v e
    rw [hg] at e
    split at e
    · exact h.now.row _ (kget_mem e)
    · exact h.sure.row _ (kget_mem e)
  have hsl : ∀ x ∈ vals L1, IsSl x.2 := by
    intro x hx
    obtain ⟨y, hy, rfl⟩ := List.mem_map.1 hx
    exact bsl_isSl (hvals y.1 y.2 (srt_mem hs hy))
  have holdL : lenV (oldV L1 name).1 = (oldV L1 name).2.length := by
    unfold oldV
    cases e : kget L1 name with
    | none => rfl
    | some v => exact bsl_len (hvals _ _ e)
  have holdN := bsl_len (h.now.old name)
  have hlt : ∀ b, mo1 = some b → b < wr.heap.size := fun b e => by
    rcases hm with ⟨h0, _⟩ | ⟨b', h0, hm⟩
    · rw [h0] at e; cases e
    · rw [h0] at e; injection e with e; subst e; exact hm.lt
  refine (take_any p 2 _ _ mo1 (wrap64 (tot (txts L1) : Nat)) (vals L1) R.nmo (tot (txts R.N) : Nat) (vals R.N) (tx name) W (hr.keep k (fun h => h)) (by simp [Raw.cs, dC]) (by simp [Raw.cs, dC]) (k.mapV hm (fun _ _ h => h)) hnow.map (fun b e => (hmo b e).1) hsl hnow.sl (by rw [size_mk]; exact hn) (by simp [vals]; omega)).mono fun e w' ⟨he, mo2, hmo2, hne2, hr2, hm2, hk2⟩ => ⟨he, ?_, ?_, ?_, ?_⟩
  · intro g o v h1 h2
    refine (hk2.cell (World.block_lt_of_cell? _ _ h2) ?_).trans h2
    rintro (e | e)
    · exact h1 e
    · rcases k.mapV hm (fun _ _ h => h) with ⟨h0, _⟩ | ⟨b', h0, es, clock, hb, _⟩
      · rw [h0] at e; cases e
      · rw [h0] at e; injection e with e; subst e
        simp [World.cell?, hb] at h2
  · rw [hr2.cell]; simp [Raw.cs, dC]
  · rw [hr2.cell]; simp [Raw.cs, dC]
  · rw [tx_list] at hr2 hm2
    rw [oldV_vals, oldV_vals] at hr2
    refine ⟨mo2, takeK L1 R.N name, ?_, by rw [vals_take]; exact hm2, srt_takeK hs _ _, fun m => ?_, ?_, fun b e => ⟨hne2 b e, fun hb => ?_⟩, hK.then hk2 fun j hj e => ?_⟩
    · rw [set_ext] at hr2
      have e : wrap64 (wrap64 (tot (txts L1) : Nat) + ((lenV (oldV R.N name).1 : Int) - (lenV (oldV L1 name).1 : Int))) = wrap64 (tot (txts (takeK L1 R.N name)) : Nat) := by
        rw [tot_take hs name holdN holdL, Int.add_comm, wrap_add, Int.add_comm]
      rw [e] at hr2
      exact hr2
    · rw [takeK_get, hg m]
      by_cases e : m = name
      · subst e; simp
      · rw [if_neg e]
        simp [e]
    · have := len_takeK L1 R.N name
      simp only [List.length_append, List.length_singleton]
      omega
    · rcases hmo2 with e2 | ⟨b', e2, hb'⟩
      · exact (hmo b (e2 ▸ e)).2 hb
      · rw [e2] at e; injection e with e; omega
    · rcases e with e | e
      · exact .inl e
      · exact .inr ((hmo j e).2 hj)

/-- what 'Sync' makes of a disk -/
def synD (d : Ds) : Ds := { d with S := d.now, ws := [] }
def touched (ws : List Chg) : List Bs := ws.flatMap fun ch => [ch.name, ch.to]
theorem touched_len (ws : List Chg) : (touched ws).length = 2 * ws.length := by
  induction ws with
  | nil => rfl
  | cons x r ih => simp [touched] at ih ⊢; omega
theorem touched_snoc (ws : List Chg) (k : Nat) (hk : k < ws.length) : touched (ws.take (k + 1)) = (touched (ws.take k) ++ [ws[k].name]) ++ [ws[k].to] := by
  unfold touched
  rw [List.take_succ_eq_append_getElem hk, List.flatMap_append]
  simp only [List.flatMap_cons, List.flatMap_nil, List.append_nil, List.append_assoc, List.cons_append, List.nil_append]

theorem sync_end {w wr : World} {c : Nat → Nat} {p : Nat} {R : Raw} {d : Ds} (h : DiskR w c p R d) (hM : tot d.now ≤ 4611686018427387904) (ha : SyncAt w c p R d (touched d.ws) wr) : wr.cell? ⟨p, 4, none⟩ = some R.wv ∧ wr.frozen? ⟨p, 4, none⟩ = false ∧ Left w c p (synD d) (wr.setCell ⟨p, 4, none⟩ (.slice none 0 0)) := by
  obtain ⟨mo1, L1, hr, hm, hs, hg, hl, hmo, hk⟩ := ha
  refine ⟨by rw [hr.cell]; simp [Raw.cs, dC], hr.frozen, ?_⟩
  have hun : ∀ m, m ∉ touched d.ws → ∀ ch ∈ d.ws, m ≠ ch.name ∧ m ≠ ch.to := fun m hnm ch hc => by
    unfold touched at hnm
    simp only [List.mem_flatMap, not_exists, not_and] at hnm
    have := hnm ch hc
    simp at this
    exact this
  /- each file is one of those that are, or one that was sure and was not touched -/
  have who : ∀ x ∈ L1, x ∈ R.N ∨ (x ∈ R.SL ∧ ∀ ch ∈ d.ws, x.1 ≠ ch.name ∧ x.1 ≠ ch.to) := fun x hx => by
    have h1 := srt_mem hs (show (x.1, x.2) ∈ L1 from hx)
    rw [hg x.1] at h1
    by_cases ht : x.1 ∈ touched d.ws
    · rw [if_pos ht] at h1; exact .inl (kget_mem h1)
    · rw [if_neg ht] at h1; exact .inr ⟨kget_mem h1, hun _ ht⟩
  have hLN : txts L1 = txts R.N := srt_ext (srt_txts.2 hs) (srt_txts.2 h.now.srt) fun m => by
    rw [txts_get, hg m]
    by_cases ht : m ∈ touched d.ws
    · rw [if_pos ht, ← txts_get]
    · rw [if_neg ht, ← txts_get]; exact (h.unt m (hun m ht)).symm
  have ht : tot (txts R.N) ≤ 4611686018427387904 := by rw [h.eN]; exact hM
  have htot : wrap64 ((tot (txts R.N) : Nat) : Int) = (tot (txts R.N) : Nat) := IntWalk.wrap64_in _ (by omega)
  rw [hLN, htot] at hr
  have hr4 := hr.set 4 (.slice none 0 0)
  have k4 := keep_setCell wr p 4 (.slice none 0 0)
  generalize wr.setCell ⟨p, 4, none⟩ (.slice none 0 0) = w4 at hr4 k4 ⊢
  have K : Keep (fun k => k = p ∨ c k = 2) w w4 := hk.then k4 (fun j _ e => .inl e)
  have hcp := h.cp
  have hp := h.row.lt
  have hcol : ∀ k, k < w.heap.size → (if mo1 = some k then 2 else c k) = c k := fun k hk => by
    by_cases e : mo1 = some k
    · rw [if_pos e, (hmo k e).2 hk]
    · rw [if_neg e]
  have hnow : FilIs w4 (fun k => if mo1 = some k then 2 else c k) 1 R.nmo R.N := h.now.keep' K hcol (fun j _ e => by rcases e with rfl | e <;> omega)
  have hbs : ∀ x ∈ R.SL, BSl w4 0 x.2.1 x.2.2 ∧ ∀ g, x.2.1.ownBlock = some g → (if mo1 = some g then 2 else c g) = 3 := fun x hx => by
    refine ⟨K.bsl (h.sure.row x hx) (fun g e hS => ?_), fun g e => by rw [hcol g (bsl_block (h.sure.row x hx) e)]; exact h.sure.col x hx g e⟩
    have := h.sure.col x hx g e
    rcases hS with rfl | e2 <;> omega
  have hx2 : ∀ y ∈ L1, ∀ x ∈ R.N, x.1 ≠ y.1 → ∀ g, x.2.1.ownBlock = some g → y.2.1.ownBlock ≠ some g := fun y hy x hx hxy g e => by
    rcases who y hy with h1 | ⟨h1, h2⟩
    · exact h.now.apart x hx y h1 hxy g e
    · exact h.xap y h1 h2 x hx hxy g e
  refine ⟨⟨fun k => if mo1 = some k then 2 else c k, ⟨⟨R.nmo, mo1, R.N, L1, .slice none 0 0, R.fm⟩, ?_⟩, hcol⟩, K.mono fun j _ e => by rcases e with rfl | e <;> omega⟩
  have hsure : FilIs w4 (fun k => if mo1 = some k then 2 else c k) 2 mo1 L1 := by
    refine ⟨k4.mapV hm (fun b e e2 => (hmo b e).1 e2), fun b e => if_pos e, fun x hx => ?_, fun x hx => ?_, fun x hx y hy hxy g e e2 => ?_, hs⟩
    · rcases who x hx with h1 | ⟨h1, _⟩
      · exact hnow.row x h1
      · exact (hbs x h1).1
    · rcases who x hx with h1 | ⟨h1, _⟩
      · exact hnow.col x h1
      · exact (hbs x h1).2
    · rcases who x hx with h1 | ⟨h1, _⟩
      · exact hx2 y hy x h1 hxy g e e2
      · rcases who y hy with h3 | ⟨h3, _⟩
        · exact hx2 x hx y h3 (Ne.symm hxy) g e2 e
        · exact h.sure.apart x h1 y h3 hxy g e e2
  refine ⟨?_, ?_, hnow, hsure, hLN.trans h.eN, h.eN, fun y hy => ?_, ⟨rfl, .inl ⟨rfl, rfl⟩⟩, fun g e => by simp [Value.ownBlock] at e, h.fall.keep K hcol (fun j _ e => by rcases e with rfl | e <;> omega), fun m _ => by rw [hLN], fun i hi => by simp [synD] at hi, fun _ => rfl, fun y hy _ => hx2 y hy⟩
  · have e : (((R.cs d).set 2 (.map mo1)).set 3 (.int .i64 (tot (txts R.N)))).set 4 (.slice none 0 0) = Raw.cs ⟨R.nmo, mo1, R.N, L1, .slice none 0 0, R.fm⟩ (synD d) := by simp [Raw.cs, dC, synD, hLN]
    rw [← e]; exact hr4
  · show (if mo1 = some p then 2 else c p) = 0
    rw [hcol p hp]; exact hcp
  · rcases who y hy with h1 | ⟨h1, _⟩
    · exact safe_self hnow y h1
    · exact h.safe y h1

set_option maxRecDepth 100000 in
set_option maxHeartbeats 4000000 in
theorem sync_up (p : Nat) (c : Nat → Nat) (R : Raw) (d : Ds) (w : World) (h : DiskR w c p R d) (hdn : d.dn = false) (hM : d.wt + d.S.length + d.ws.length ≤ 70368744177) :
    Calls Tryz.prog 40 #[.pointer (some ⟨p, 0, none⟩)] w fun e w' => e = .returned (.int .i64 0) ∧ Left w c p (synD d) w' := by
  obtain ⟨ad, wc, hwc⟩ : ∃ ad cp, R.wv = .slice ad d.ws.length cp := by
    rcases h.wrow.2 with ⟨e, h0⟩ | ⟨g, cap, cur, e, _⟩
    · exact ⟨none, 0, by rw [e, h0]⟩
    · exact ⟨_, _, e⟩
  have d4 : w.cell? ⟨p, 4, none⟩ = some R.wv := h.row.cellAt (by simp [Raw.cs, dC])
  rw [hwc] at d4
  have d9 : w.cell? ⟨p, 9, none⟩ = some (.bool d.dn) := h.row.cellAt (by simp [Raw.cs, dC])
  rw [hdn] at d9
  have HD := hid (down_any (.pointer (some ⟨p, 0, none⟩)) false w (.inr ⟨p, rfl, d9⟩))
  have hlen : d.ws.length ≤ 70368744177 := by omega
  have hSL : R.SL.length = d.S.length := by rw [← h.eS]; simp [txts]
  have HST : Hid (∀ (k : Nat) (hk : k < d.ws.length) (wr : World), SyncAt w c p R d (touched (d.ws.take k)) wr → ∃ g, ad = some ⟨g, 0, none⟩ ∧ (∀ j, j < 5 → wr.cell? ⟨g, k * 5 + j, none⟩ = (chC d.ws[k])[j]?) ∧ wr.cell? ⟨p, 0, none⟩ = some (.map R.nmo) ∧ wr.cell? ⟨p, 1, none⟩ = some (.int .i64 (tot (txts R.N))) ∧
      (∀ W, Keep (fun _ => False) wr W → Calls Tryz.prog 87 #[.pointer (some ⟨p, 2, none⟩), .agg #[.map R.nmo, .int .i64 (tot (txts R.N))], .string (tx d.ws[k].name)] W fun e w' => e = .returned (.tuple #[]) ∧ (∀ g o v, g ≠ p → W.cell? ⟨g, o, none⟩ = some v → w'.cell? ⟨g, o, none⟩ = some v) ∧ w'.cell? ⟨p, 0, none⟩ = some (.map R.nmo) ∧ w'.cell? ⟨p, 1, none⟩ = some (.int .i64 (tot (txts R.N))) ∧ SyncAt w c p R d (touched (d.ws.take k) ++ [d.ws[k].name]) w')) := by
    intro k hk wr ha
    have ha' := ha
    obtain ⟨mo1, L1, hr, hm, hs, hg, hl, hmo, hkp⟩ := ha
    have hrow : wr.ownsRow 0 131 5 R.wv d.ws.length (chs d.ws) := hkp.ownsRow h.wrow fun g e hS => by
      have h4 := h.wcol g e
      have hcp := h.cp
      rcases hS with rfl | e2 <;> omega
    rw [hwc] at hrow
    obtain ⟨g, hg, hcl⟩ := wait_cells hrow k hk
    refine ⟨g, hg, fun j hj => by rw [Nat.mul_comm]; exact hcl j hj, by rw [hr.cell]; simp [Raw.cs, dC], by rw [hr.cell]; simp [Raw.cs, dC], fun W hW => sync_step h _ ha' d.ws[k].name (h.oks k hk).name ?_ hW⟩
    rw [touched_len, List.length_take, hSL]; unfold maxLen; omega
  have HS2 : Hid (∀ (k : Nat) (hk : k < d.ws.length) (wr : World), SyncAt w c p R d (touched (d.ws.take k) ++ [d.ws[k].name]) wr → ∀ W, Keep (fun _ => False) wr W → Calls Tryz.prog 87 #[.pointer (some ⟨p, 2, none⟩), .agg #[.map R.nmo, .int .i64 (tot (txts R.N))], .string (tx d.ws[k].to)] W fun e w' => e = .returned (.tuple #[]) ∧ (∀ g o v, g ≠ p → W.cell? ⟨g, o, none⟩ = some v → w'.cell? ⟨g, o, none⟩ = some v) ∧ w'.cell? ⟨p, 0, none⟩ = some (.map R.nmo) ∧ w'.cell? ⟨p, 1, none⟩ = some (.int .i64 (tot (txts R.N))) ∧ SyncAt w c p R d (touched (d.ws.take (k + 1))) w') := by
    intro k hk wr ha W hW
    rw [touched_snoc _ _ hk]
    refine sync_step h _ ha d.ws[k].to (h.oks k hk).to ?_ hW
    rw [List.length_append, touched_len, List.length_take, hSL]; simp only [List.length_singleton]; unfold maxLen; omega
  have HEND : Hid (∀ wr, SyncAt w c p R d (touched d.ws) wr → wr.cell? ⟨p, 4, none⟩ = some (.slice ad d.ws.length wc) ∧ wr.frozen? ⟨p, 4, none⟩ = false ∧ Left w c p (synD d) (wr.setCell ⟨p, 4, none⟩ (.slice none 0 0))) := fun wr ha => by rw [← hwc]; exact sync_end h (by have := (DiskIs.tot_le ⟨R, h⟩).1; omega) ha
  have H0 : Hid (SyncAt w c p R d (touched (d.ws.take 0)) w) := by
    refine ⟨R.smo, R.SL, ?_, h.sure.map, h.sure.srt, fun m => ?_, Nat.le_add_right _ _, fun b e => ⟨fun e2 => ?_, fun _ => h.sure.mcol b e⟩, Keep.refl _ _⟩
    · have ht : tot (txts R.SL) ≤ 4611686018427387904 := by rw [h.eS]; have : tot d.S ≤ d.wt := Nat.le_add_right _ _; omega
      rw [IntWalk.wrap64_in _ (by omega), set_same (by simp [Raw.cs, dC]), set_same (by simp [Raw.cs, dC])]; exact h.row
    · simp [touched]
    · have h1 := h.sure.mcol b e
      have h2 := h.cp
      rw [e2] at h1; omega
  clear h hdn hM d9 hSL hwc
  go_enter Tryz.func40, Tryz.ntmps40
  go_wp2_with fail
  refine HD.out.mono ?_
  rintro e w1 ⟨rfl, rfl⟩
  clear HD
  go_wp2
  go_loopw [12] (fun i wr => ∃ k : Nat, k ≤ d.ws.length ∧ i = .int .i64 k ∧ Hid (SyncAt w1 c p R d (touched (d.ws.take k)) wr)) (fun i _ => d.ws.length - (intOf i).toNat)
  case atStart => exact ⟨0, by omega, rfl, H0⟩
  case round =>
    clear H0
    obtain ⟨k, hk, rfl, HA⟩ := hrel
    by_cases hlt : k < d.ws.length
    · have hk0 : (0 : Int) ≤ (k : Int) := by omega
      have hk1 : (k : Int) < (d.ws.length : Int) := by omega
      obtain ⟨g, hg, hcl, p0, p1, hT1⟩ := HST.out k hlt wr HA.out
      have T1 := hid hT1
      have T2 := hid (HS2.out k hlt)
      have q0 := hcl 0 (by omega)
      have q1 := hcl 1 (by omega)
      have q2 := hcl 2 (by omega)
      have q3 := hcl 3 (by omega)
      have q4 := hcl 4 (by omega)
      clear hcl hT1 HST HS2 HEND d4 HA
      generalize d.ws[k] = ch at *
      simp only [chC, List.getElem?_cons_zero, List.getElem?_cons_succ, Nat.add_zero] at q0 q1 q2 q3 q4
      subst hg
      have hpw : p ≠ wr.heap.size := fun e => by have := World.block_lt_of_cell? _ _ p0; simp at this; omega
      have hwp : wr.heap.size ≠ p := fun e => hpw e.symm
      have BX : Hid (∀ W : World, W.heap = (wr.alloc (.cells #[.int .i64 ch.kind, .string ⟨ch.name.toArray⟩, .string ⟨ch.to.toArray⟩, .string ⟨ch.s.toArray⟩, .int .i64 ch.long] 131)).heap → W.cell? ⟨p, 0, none⟩ = some (.map R.nmo) ∧ W.cell? ⟨p, 1, none⟩ = some (.int .i64 (tot (txts R.N))) ∧ W.cell? ⟨wr.heap.size, 1, none⟩ = some (.string ⟨ch.name.toArray⟩) ∧ W.cell? ⟨wr.heap.size, 2, none⟩ = some (.string ⟨ch.to.toArray⟩)) := by
        intro W hW
        have e : ∀ a, W.cell? a = (wr.alloc (.cells #[.int .i64 ch.kind, .string ⟨ch.name.toArray⟩, .string ⟨ch.to.toArray⟩, .string ⟨ch.s.toArray⟩, .int .i64 ch.long] 131)).cell? a := fun a => by simp [World.cell?, hW]
        have hb := box_new wr ch
        have ka := keep_alloc (fun _ => False) wr (.cells #[.int .i64 ch.kind, .string ⟨ch.name.toArray⟩, .string ⟨ch.to.toArray⟩, .string ⟨ch.s.toArray⟩, .int .i64 ch.long] 131)
        have hp : p < wr.heap.size := by have := World.block_lt_of_cell? _ _ p0; simpa using this
        rw [e, e, e, e]
        exact ⟨(ka.cell hp (fun h => h)).trans p0, (ka.cell hp (fun h => h)).trans p1, hb.2.1, hb.2.2.1⟩
      have BX0 := hid (BX.out (wr.alloc (.cells #[.int .i64 ch.kind, .string ⟨ch.name.toArray⟩, .string ⟨ch.to.toArray⟩, .string ⟨ch.s.toArray⟩, .int .i64 ch.long] 131)) rfl)
      have BX1 := hid (BX.out (wr.alloc (.cells #[.int .i64 ch.kind, .string ⟨ch.name.toArray⟩, .string ⟨ch.to.toArray⟩, .string ⟨ch.s.toArray⟩, .int .i64 ch.long] 131)).drew rfl)
      have U1 : Hid (∀ X, (wr.alloc X).drew.cell? ⟨wr.heap.size, 1, none⟩ = some (.string ⟨ch.name.toArray⟩) → (wr.alloc X).drew.cell? ⟨wr.heap.size, 2, none⟩ = some (.string ⟨ch.to.toArray⟩) → Calls Tryz.prog 87 #[.pointer (some ⟨p, 2, none⟩), .agg #[.map R.nmo, .int .i64 (tot (txts R.N))], .string ⟨ch.name.toArray⟩] (wr.alloc X).drew fun e w' => e = .returned (.tuple #[]) ∧ (w'.cell? ⟨p, 0, none⟩ = some (.map R.nmo) ∧ w'.cell? ⟨p, 1, none⟩ = some (.int .i64 (tot (txts R.N))) ∧ w'.cell? ⟨wr.heap.size, 1, none⟩ = some (.string ⟨ch.name.toArray⟩) ∧ w'.cell? ⟨wr.heap.size, 2, none⟩ = some (.string ⟨ch.to.toArray⟩)) ∧ SyncAt w1 c p R d (touched (d.ws.take k) ++ [ch.name]) w') :=
        fun X h1 h2 => (T1.out _ ((keep_alloc _ _ _).trans (keep_drew _ _))).mono fun e w' ⟨he, hc, e0, e1, hS⟩ => ⟨he, ⟨e0, e1, hc _ _ _ hwp h1, hc _ _ _ hwp h2⟩, hS⟩
      have U2 : Hid (∀ w2, SyncAt w1 c p R d (touched (d.ws.take k) ++ [ch.name]) w2 → w2.cell? ⟨wr.heap.size, 1, none⟩ = some (.string ⟨ch.name.toArray⟩) → w2.cell? ⟨wr.heap.size, 2, none⟩ = some (.string ⟨ch.to.toArray⟩) → Calls Tryz.prog 87 #[.pointer (some ⟨p, 2, none⟩), .agg #[.map R.nmo, .int .i64 (tot (txts R.N))], .string ⟨ch.to.toArray⟩] w2.drew fun e w' => e = .returned (.tuple #[]) ∧ (w'.cell? ⟨p, 0, none⟩ = some (.map R.nmo) ∧ w'.cell? ⟨p, 1, none⟩ = some (.int .i64 (tot (txts R.N))) ∧ w'.cell? ⟨wr.heap.size, 1, none⟩ = some (.string ⟨ch.name.toArray⟩) ∧ w'.cell? ⟨wr.heap.size, 2, none⟩ = some (.string ⟨ch.to.toArray⟩)) ∧ SyncAt w1 c p R d (touched (d.ws.take (k + 1))) w') :=
        fun w2 hS h1 h2 => (T2.out w2 hS w2.drew (keep_drew _ _)).mono fun e w' ⟨he, hc, e0, e1, hS⟩ => ⟨he, ⟨e0, e1, hc _ _ _ hwp h1, hc _ _ _ hwp h2⟩, hS⟩
      clear T1 T2 BX
      go_wp2
      go_region_held3 (fun w' => w'.cell? ⟨p, 0, none⟩ = some (.map R.nmo) ∧ w'.cell? ⟨p, 1, none⟩ = some (.int .i64 (tot (txts R.N))) ∧ w'.cell? ⟨wr.heap.size, 1, none⟩ = some (.string ⟨ch.name.toArray⟩) ∧ w'.cell? ⟨wr.heap.size, 2, none⟩ = some (.string ⟨ch.to.toArray⟩)) (first | with_reducible assumption | with_reducible (exact BX0.out) | with_reducible (exact BX1.out)) ((go_at_call 87; with_reducible (refine (U1.out _ ?_ ?_).mono ?_); with_reducible (exact BX1.out.2.2.1); with_reducible (exact BX1.out.2.2.2); rintro e w2 ⟨rfl, hb2, hS2⟩))
      all_goals
        have V2 := hid (U2.out w2 hS2 hb2.2.2.1 hb2.2.2.2)
        have B2 := hid hb2
        have B2d : Hid (w2.drew.cell? ⟨p, 0, none⟩ = some (.map R.nmo) ∧ w2.drew.cell? ⟨p, 1, none⟩ = some (.int .i64 (tot (txts R.N))) ∧ w2.drew.cell? ⟨wr.heap.size, 1, none⟩ = some (.string ⟨ch.name.toArray⟩) ∧ w2.drew.cell? ⟨wr.heap.size, 2, none⟩ = some (.string ⟨ch.to.toArray⟩)) := hb2
        clear U1 U2 hS2 hb2 BX0 BX1 q0 q1 q2 q3 q4 p0 p1
        go_wp2
        go_region_held3 (fun w' => w'.cell? ⟨p, 0, none⟩ = some (.map R.nmo) ∧ w'.cell? ⟨p, 1, none⟩ = some (.int .i64 (tot (txts R.N))) ∧ w'.cell? ⟨wr.heap.size, 1, none⟩ = some (.string ⟨ch.name.toArray⟩) ∧ w'.cell? ⟨wr.heap.size, 2, none⟩ = some (.string ⟨ch.to.toArray⟩)) (first | with_reducible assumption | with_reducible (exact B2.out) | with_reducible (exact B2d.out)) ((go_at_call 87; with_reducible (refine V2.out.mono ?_); rintro e w3 ⟨rfl, hb3, hS3⟩))
        all_goals
          have HA := hid hS3
          clear V2 hS3 hb3 B2 B2d
          go_wp2
          exact ⟨⟨k + 1, by omega, by go_num, HA⟩, by simp [intOf]; omega⟩
    · have hd : decide ((k : Int) < (d.ws.length : Int)) = false := decide_eq_false (by omega)
      have hkl : d.ws.take k = d.ws := List.take_of_length_le (by omega)
      rw [hkl] at HA
      obtain ⟨e4, f4, hL⟩ := HEND.out wr HA.out
      have HL := hid hL
      clear HST HS2 HEND HA hL d4 hkl
      go_wp2
      go_ret
      exact ⟨rfl, HL.out⟩
theorem sync_any (p : Nat) (c : Nat → Nat) (d : Ds) (w : World) (h : DiskIs w c p d) (hdn : d.dn = false) (hM : d.wt + d.S.length + d.ws.length ≤ 70368744177) :
    Calls Tryz.prog 40 #[.pointer (some ⟨p, 0, none⟩)] w fun e w' => e = .returned (.int .i64 0) ∧ Left w c p (synD d) w' := by
  obtain ⟨R, hR⟩ := h
  exact sync_up p c R d w hR hdn hM
end Go.Proofs.YtefbioainibmaaaGreatDoor
namespace Go.Proofs.YtefbioainibmaaaGreatDoor
open Go.RowKit Go.Maps
set_option linter.unusedVariables false
set_option linter.unusedSimpArgs false

/-- what 'Remove' makes of a disk, and what is told -/
def rmD (d : Ds) (name : Bs) : Ds × Int :=
  if d.dn then (d, 21) else if nameOk name = false then (d, 20) else if (kget d.now name).isSome = false then (d, 4) else chgD d ⟨3, name, [], [], 0⟩
/-- what 'Cut' makes of a disk, and what is told -/
def cuD (d : Ds) (name : Bs) (l : Int) : Ds × Int :=
  if d.dn then (d, 21) else if nameOk name = false then (d, 20) else if (kget d.now name).isSome = false then (d, 4) else if l < 0 ∨ ((((kget d.now name).getD []).length : Nat) : Int) < l then (d, 1) else chgD d ⟨4, name, [], [], l.toNat⟩

set_option maxRecDepth 100000 in
set_option maxHeartbeats 1000000 in
theorem remove_any (p : Nat) (c : Nat → Nat) (d : Ds) (name : Bs) (w : World) (h : DiskIs w c p d) (hM : d.wt + d.S.length + d.ws.length + name.length ≤ 70368744177) (hn : d.n ≤ 1152921504606846976) :
    Calls Tryz.prog 122 #[.pointer (some ⟨p, 0, none⟩), .string (tx name)] w fun e w' => e = .returned (.int .i64 (rmD d name).2) ∧ Left w c p (rmD d name).1 w' := by
  have hD := h.down
  by_cases hdn : d.dn = true
  · have e : rmD d name = (d, 21) := by unfold rmD; rw [if_pos hdn]
    rw [e]
    refine (remove_refused _ _ (tx name) w hD (by rw [hdn]; unfold refN; simp)).mono fun e w' ⟨he, hk⟩ => ⟨?_, left_same h hk⟩
    rw [he, hdn]; rfl
  have hdn' : d.dn = false := by simpa using hdn
  by_cases hnm : nameOk name = true
  · rw [hdn'] at hD
    have hkA := keep_alloc (fun _ => False) w (.cells #[.string (tx name)] 9)
    obtain ⟨mo, N, c0, hmv, hN, hrow⟩ := h.files hkA
    have RC := hid (ref_call1 _ _ (tx name) w hD)
    rw [refN1 hnm] at RC
    have hnl := nameOk_len hnm
    have hns : (tx name).size ≤ maxLen := by rw [size_mk]; unfold maxLen; omega
    have HA := hid (has_any p mo (vals N) (tx name) _ c0 hmv hns)
    have hkn : (kget (vals N) name).isSome = (kget d.now name).isSome := by rw [← hN, txts_get, vals_get]; cases kget N name <;> rfl
    rw [tx_list, hkn] at HA
    have HKA := hid hkA
    have HL := hid (fun w' (k : Keep (fun _ => False) w w') => left_same h k)
    cases hg : (kget d.now name).isSome with
    | false =>
      have HE : Hid (rmD d name = (d, 4)) := by show _ = _; unfold rmD; rw [if_neg hdn, if_neg (by simp [hnm]), if_pos hg]
      rw [hg] at HA
      rw [HE.out]
      clear h hD hdn hdn' hnm hmv hN hrow hnl hns hkn hkA hM hn hg
      go_enter Tryz.func122, Tryz.ntmps122
      go_wp2_with fail
      refine RC.out.mono ?_
      rintro e w1 ⟨rfl, rfl⟩
      clear RC
      go_wp2_with fail
      refine HA.out.mono ?_
      rintro e w2 ⟨rfl, rfl⟩
      clear HA
      go_wp2
      go_ret
      exact ⟨rfl, HL.out _ HKA.out⟩
    | true =>
      rw [hg] at HA
      have HE : Hid (rmD d name = chgD d ⟨3, name, [], [], 0⟩) := by show _ = _; unfold rmD; rw [if_neg hdn, if_neg (by simp [hnm]), if_neg (by simp [hg])]
      have hok : ChOk d.now ⟨3, name, [], [], 0⟩ := ⟨by simp, by show name.length ≤ _; unfold maxLen; omega, by simp, by simp, by simp⟩
      have CH : Hid (∀ W, Keep (fun _ => False) w W → Calls Tryz.prog 86 #[.pointer (some ⟨p, 0, none⟩), .agg #[.int .i64 3, .string (tx name), .string ⟨#[]⟩, .string ⟨#[]⟩, .int .i64 0]] W fun e w' => e = .returned (.int .i64 (chgD d ⟨3, name, [], [], 0⟩).2) ∧ Left w c p (chgD d ⟨3, name, [], [], 0⟩).1 w') := fun W k => chg_from h hdn' ⟨3, name, [], [], 0⟩ hok k (by simp only [List.length_nil]; omega) hn
      rw [HE.out]
      clear h hD hdn hdn' hnm hmv hN hrow hnl hns hkn hkA hM hn hg HE hok HL
      generalize chgD d ⟨3, name, [], [], 0⟩ = r at *
      go_enter Tryz.func122, Tryz.ntmps122
      go_wp2_with fail
      refine RC.out.mono ?_
      rintro e w1 ⟨rfl, rfl⟩
      clear RC
      go_wp2_with fail
      refine HA.out.mono ?_
      rintro e w2 ⟨rfl, rfl⟩
      clear HA
      go_wp2_with fail
      refine (CH.out _ HKA.out).mono ?_
      rintro e w3 ⟨rfl, hL⟩
      have HL := hid hL
      clear CH hL
      go_wp2
      go_ret
      exact ⟨rfl, HL.out⟩
  · have hnm' : nameOk name = false := by simpa using hnm
    have e : rmD d name = (d, 20) := by unfold rmD; rw [if_neg hdn, if_pos hnm']
    rw [e]
    refine (remove_refused _ _ (tx name) w hD (by rw [hdn']; unfold refN; simp [hnm'])).mono fun e w' ⟨he, hk⟩ => ⟨?_, left_same h hk⟩
    rw [he, hdn']; unfold refN; simp [hnm']

set_option maxRecDepth 100000 in
set_option maxHeartbeats 1000000 in
theorem cut_any (p : Nat) (c : Nat → Nat) (d : Ds) (name : Bs) (l : Int) (w : World) (h : DiskIs w c p d) (hM : d.wt + d.S.length + d.ws.length + name.length ≤ 70368744177) (hn : d.n ≤ 1152921504606846976) :
    Calls Tryz.prog 148 #[.pointer (some ⟨p, 0, none⟩), .string (tx name), .int .i64 l] w fun e w' => e = .returned (.int .i64 (cuD d name l).2) ∧ Left w c p (cuD d name l).1 w' := by
  have hD := h.down
  by_cases hdn : d.dn = true
  · have e : cuD d name l = (d, 21) := by unfold cuD; rw [if_pos hdn]
    rw [e]
    refine (cut_refused _ _ (tx name) l w hD (by rw [hdn]; unfold refN; simp)).mono fun e w' ⟨he, hk⟩ => ⟨?_, left_same h hk⟩
    rw [he, hdn]; rfl
  have hdn' : d.dn = false := by simpa using hdn
  by_cases hnm : nameOk name = true
  · rw [hdn'] at hD
    have hkA := keep_alloc (fun _ => False) w (.cells #[.string (tx name)] 9)
    obtain ⟨mo, N, c0, hmv, hN, hrow⟩ := h.files hkA
    have RC := hid (ref_call1 _ _ (tx name) w hD)
    rw [refN1 hnm] at RC
    have hnl := nameOk_len hnm
    have hns : (tx name).size ≤ maxLen := by rw [size_mk]; unfold maxLen; omega
    have HA := hid (has_any p mo (vals N) (tx name) _ c0 hmv hns)
    have hkn : (kget (vals N) name).isSome = (kget d.now name).isSome := by rw [← hN, txts_get, vals_get]; cases kget N name <;> rfl
    rw [tx_list, hkn] at HA
    have hlk := mapV_look hmv (tx name) hns
    rw [tx_list, oldV_vals] at hlk
    obtain ⟨ad, cap, hov⟩ := (old_bsl hrow name).size
    rw [hov] at hlk
    have hold : (kget d.now name).getD [] = (oldV N name).2 := by rw [← hN, oldV_txts]
    have HKA := hid hkA
    have HL := hid (fun w' (k : Keep (fun _ => False) w w') => left_same h k)
    cases hg : (kget d.now name).isSome with
    | false =>
      have HE : Hid (cuD d name l = (d, 4)) := by show _ = _; unfold cuD; rw [if_neg hdn, if_neg (by simp [hnm]), if_pos hg]
      rw [hg] at HA
      rw [HE.out]
      clear h hD hdn hdn' hnm hmv hN hrow hnl hns hkn hkA hM hn hg hlk hov hold
      go_enter Tryz.func148, Tryz.ntmps148
      go_wp2_with fail
      refine RC.out.mono ?_
      rintro e w1 ⟨rfl, rfl⟩
      clear RC
      go_wp2_with fail
      refine HA.out.mono ?_
      rintro e w2 ⟨rfl, rfl⟩
      clear HA
      go_wp2
      go_ret
      exact ⟨rfl, HL.out _ HKA.out⟩
    | true =>
      rw [hg] at HA
      have hce : cuD d name l = if l < 0 ∨ (((oldV N name).2.length : Nat) : Int) < l then (d, 1) else chgD d ⟨4, name, [], [], l.toNat⟩ := by unfold cuD; rw [if_neg hdn, if_neg (by simp [hnm]), if_neg (by simp [hg]), hold]
      have hokc : ¬ (l < 0 ∨ (((oldV N name).2.length : Nat) : Int) < l) → ChOk d.now ⟨4, name, [], [], l.toNat⟩ := fun hh => ⟨by simp, by show name.length ≤ _; unfold maxLen; omega, by simp, by simp, fun _ => by show l.toNat ≤ ((kget d.now name).getD []).length; rw [hold]; omega⟩
      generalize (oldV N name).2.length = ol at *
      by_cases hneg : l < 0
      · have HE : Hid (cuD d name l = (d, 1)) := by show _ = _; rw [hce, if_pos (.inl hneg)]
        rw [HE.out]
        clear h hD hdn hdn' hnm hmv hN hrow hnl hns hkn hkA hM hn hg hov hold hce hokc HE
        go_enter Tryz.func148, Tryz.ntmps148
        go_wp2_with fail
        refine RC.out.mono ?_
        rintro e w1 ⟨rfl, rfl⟩
        clear RC
        go_wp2_with fail
        refine HA.out.mono ?_
        rintro e w2 ⟨rfl, rfl⟩
        clear HA
        go_wp2
        go_ret
        exact ⟨rfl, HL.out _ HKA.out⟩
      · have hneg' : decide (l < 0) = false := decide_eq_false hneg
        by_cases hbig : (ol : Int) < l
        · have HE : Hid (cuD d name l = (d, 1)) := by show _ = _; rw [hce, if_pos (.inr hbig)]
          rw [HE.out]
          clear h hD hdn hdn' hnm hmv hN hrow hnl hns hkn hkA hM hn hg hov hold hce hokc HE
          go_enter Tryz.func148, Tryz.ntmps148
          go_wp2_with fail
          refine RC.out.mono ?_
          rintro e w1 ⟨rfl, rfl⟩
          clear RC
          go_wp2_with fail
          refine HA.out.mono ?_
          rintro e w2 ⟨rfl, rfl⟩
          clear HA
          go_wp2
          go_ret
          exact ⟨rfl, HL.out _ HKA.out⟩
        · have hbig' : decide ((ol : Int) < l) = false := decide_eq_false hbig
          have HE : Hid (cuD d name l = chgD d ⟨4, name, [], [], l.toNat⟩) := by show _ = _; rw [hce, if_neg (by rintro (e | e); exact hneg e; exact hbig e)]
          have hok := hokc (by rintro (e | e); exact hneg e; exact hbig e)
          have hlt : ((l.toNat : Nat) : Int) = l := by omega
          have CH : Hid (∀ W, Keep (fun _ => False) w W → Calls Tryz.prog 86 #[.pointer (some ⟨p, 0, none⟩), .agg #[.int .i64 4, .string (tx name), .string ⟨#[]⟩, .string ⟨#[]⟩, .int .i64 l]] W fun e w' => e = .returned (.int .i64 (chgD d ⟨4, name, [], [], l.toNat⟩).2) ∧ Left w c p (chgD d ⟨4, name, [], [], l.toNat⟩).1 w') := fun W k => by
            have := chg_from h hdn' ⟨4, name, [], [], l.toNat⟩ hok k (by simp only [List.length_nil]; omega) hn
            unfold cv chV at this
            simp only [hlt] at this
            exact this
          rw [HE.out]
          clear h hD hdn hdn' hnm hmv hN hrow hnl hns hkn hkA hM hn hg hov hold hce hokc HE hok hlt HL
          generalize chgD d ⟨4, name, [], [], l.toNat⟩ = r at *
          go_enter Tryz.func148, Tryz.ntmps148
          go_wp2_with fail
          refine RC.out.mono ?_
          rintro e w1 ⟨rfl, rfl⟩
          clear RC
          go_wp2_with fail
          refine HA.out.mono ?_
          rintro e w2 ⟨rfl, rfl⟩
          clear HA
          go_wp2_with fail
          refine (CH.out _ HKA.out).mono ?_
          rintro e w3 ⟨rfl, hL⟩
          have HL := hid hL
          clear CH hL
          go_wp2
          go_ret
          exact ⟨rfl, HL.out⟩
  · have hnm' : nameOk name = false := by simpa using hnm
    have e : cuD d name l = (d, 20) := by unfold cuD; rw [if_neg hdn, if_pos hnm']
    rw [e]
    refine (cut_refused _ _ (tx name) l w hD (by rw [hdn']; unfold refN; simp [hnm'])).mono fun e w' ⟨he, hk⟩ => ⟨?_, left_same h hk⟩
    rw [he, hdn']; unfold refN; simp [hnm']

end Go.Proofs.YtefbioainibmaaaGreatDoor
namespace Go.Proofs.YtefbioainibmaaaGreatDoor
open Go.RowKit Go.Maps
set_option linter.unusedVariables false
set_option linter.unusedSimpArgs false

theorem stepL {w1 wi : World} {c : Nat → Nat} {p : Nat} {s s' : Ds} {f : FuncId} {args : Array Value} {r : Value} (h : Left w1 c p s wi) (C : ∀ W c, DiskIs W c p s → Calls Tryz.prog f args W fun e w' => e = .returned r ∧ Left W c p s' w') : Calls Tryz.prog f args wi fun e w' => e = .returned r ∧ Left w1 c p s' w' := by
  obtain ⟨⟨ci, D, hc⟩, K⟩ := h
  exact (C wi ci D).mono fun e w' ⟨he, hL⟩ => ⟨he, hL.trans hc K⟩
def synR (d : Ds) : Ds × Int := if d.dn then (d, 21) else (synD d, 0)
set_option maxRecDepth 100000 in
theorem sync_dead2 (dp : Value) (w : World) (h : DownIs w dp true) : Calls Tryz.prog 40 #[dp] w fun e w' => e = .returned (.int .i64 21) ∧ w' = w := by
  have HD := hid (down_any dp true w h)
  clear h
  go_enter Tryz.func40, Tryz.ntmps40
  go_wp2_with fail
  refine HD.out.mono ?_
  rintro e w1 ⟨rfl, rfl⟩
  clear HD
  go_wp2
  go_ret
  exact ⟨rfl, rfl⟩
theorem sync_all (p : Nat) (c : Nat → Nat) (d : Ds) (w : World) (h : DiskIs w c p d) (hM : d.wt + d.S.length + d.ws.length ≤ 70368744177) :
    Calls Tryz.prog 40 #[.pointer (some ⟨p, 0, none⟩)] w fun e w' => e = .returned (.int .i64 (synR d).2) ∧ Left w c p (synR d).1 w' := by
  unfold synR
  cases hd : d.dn with
  | true =>
    have hD := h.down
    rw [hd] at hD
    refine (sync_dead2 _ w hD).mono fun e w' ⟨he, hw⟩ => ⟨he, ?_⟩
    subst hw
    exact left_same h (Keep.refl _ _)
  | false => exact sync_any p c d w h hd hM
/-- what clearing a spare file makes of a disk, and what is told -/
def clrD (d : Ds) (spare : Bs) : Ds × Int := ((rmD d spare).1, if (rmD d spare).2 = 4 then 0 else (rmD d spare).2)
set_option maxRecDepth 100000 in
theorem clear_any (p : Nat) (c : Nat → Nat) (d : Ds) (spare : Bs) (w : World) (h : DiskIs w c p d) (hM : d.wt + d.S.length + d.ws.length + spare.length ≤ 70368744177) (hn : d.n ≤ 1152921504606846976) :
    Calls Tryz.prog 147 #[.pointer (some ⟨p, 0, none⟩), .string (tx spare)] w fun e w' => e = .returned (.int .i64 (clrD d spare).2) ∧ Left w c p (clrD d spare).1 w' := by
  have RM := hid (remove_any p c d spare w h hM hn)
  have HE : Hid ((clrD d spare).2 = if (rmD d spare).2 = 4 then 0 else (rmD d spare).2) := rfl
  have HE1 : Hid ((clrD d spare).1 = (rmD d spare).1) := rfl
  generalize clrD d spare = q at *
  generalize rmD d spare = r at *
  generalize tx spare = T at *
  obtain ⟨d2, er⟩ := r
  simp only at RM HE HE1
  clear h
  go_enter Tryz.func147, Tryz.ntmps147
  go_wp2_with fail
  refine RM.out.mono ?_
  rintro e w1 ⟨rfl, hL⟩
  have HL := hid hL
  clear RM hL
  by_cases h4 : er = 4
  · subst h4
    go_wp2
    go_ret
    exact ⟨ret_int (by rw [HE.out]; rfl), by rw [HE1.out]; exact HL.out⟩
  · have hne : (er != 4) = true := by rw [bne_iff_ne]; exact h4
    have HE2 : Hid (q.2 = er) := by have h9 := HE.out; rw [if_neg h4] at h9; exact h9
    clear h4 HE
    go_wp2
    go_ret
    exact ⟨ret_int (by rw [HE2.out]), by rw [HE1.out]; exact HL.out⟩
/-- what laying a file whole makes of a disk, and what is told -/
def layD (d : Ds) (spare name s : Bs) : Ds × Int :=
  if (wrD d spare s).2 ≠ 0 then wrD d spare s
  else if (synR (wrD d spare s).1).2 ≠ 0 then synR (wrD d spare s).1
  else if (mvD (synR (wrD d spare s).1).1 spare name).2 ≠ 0 then mvD (synR (wrD d spare s).1).1 spare name
  else synR (mvD (synR (wrD d spare s).1).1 spare name).1
set_option maxRecDepth 100000 in
set_option maxHeartbeats 1000000 in
theorem lay_any (p : Nat) (c : Nat → Nat) (d : Ds) (spare name s : Bs) (w : World) (h : DiskIs w c p d)
    (hM : d.wt + d.S.length + d.ws.length + s.length + spare.length ≤ 70368744177) (hn : d.n ≤ 1152921504606846976)
    (hM1 : (wrD d spare s).1.wt + (wrD d spare s).1.S.length + (wrD d spare s).1.ws.length ≤ 70368744177)
    (hM2 : (synR (wrD d spare s).1).1.wt + (synR (wrD d spare s).1).1.S.length + (synR (wrD d spare s).1).1.ws.length + spare.length + name.length ≤ 70368744177) (hn2 : (synR (wrD d spare s).1).1.n ≤ 1152921504606846976)
    (hM3 : (mvD (synR (wrD d spare s).1).1 spare name).1.wt + (mvD (synR (wrD d spare s).1).1 spare name).1.S.length + (mvD (synR (wrD d spare s).1).1 spare name).1.ws.length ≤ 70368744177) :
    Calls Tryz.prog 121 #[.pointer (some ⟨p, 0, none⟩), .string (tx spare), .string (tx name), .string (tx s)] w fun e w' => e = .returned (.int .i64 (layD d spare name s).2) ∧ Left w c p (layD d spare name s).1 w' := by
  have C1 := hid (write_any p c d spare s w h hM hn)
  have C2 : Hid (∀ W c, DiskIs W c p (wrD d spare s).1 → Calls Tryz.prog 40 #[.pointer (some ⟨p, 0, none⟩)] W fun e w' => e = .returned (.int .i64 (synR (wrD d spare s).1).2) ∧ Left W c p (synR (wrD d spare s).1).1 w') := fun W c D => sync_all p c _ W D hM1
  have C3 : Hid (∀ W c, DiskIs W c p (synR (wrD d spare s).1).1 → Calls Tryz.prog 155 #[.pointer (some ⟨p, 0, none⟩), .string (tx spare), .string (tx name)] W fun e w' => e = .returned (.int .i64 (mvD (synR (wrD d spare s).1).1 spare name).2) ∧ Left W c p (mvD (synR (wrD d spare s).1).1 spare name).1 w') := fun W c D => move_any p c _ spare name W D hM2 hn2
  have C4 : Hid (∀ W c, DiskIs W c p (mvD (synR (wrD d spare s).1).1 spare name).1 → Calls Tryz.prog 40 #[.pointer (some ⟨p, 0, none⟩)] W fun e w' => e = .returned (.int .i64 (synR (mvD (synR (wrD d spare s).1).1 spare name).1).2) ∧ Left W c p (synR (mvD (synR (wrD d spare s).1).1 spare name).1).1 w') := fun W c D => sync_all p c _ W D hM3
  have HE : Hid (layD d spare name s = if (wrD d spare s).2 ≠ 0 then wrD d spare s
  else if (synR (wrD d spare s).1).2 ≠ 0 then synR (wrD d spare s).1
  else if (mvD (synR (wrD d spare s).1).1 spare name).2 ≠ 0 then mvD (synR (wrD d spare s).1).1 spare name
  else synR (mvD (synR (wrD d spare s).1).1 spare name).1) := rfl
  generalize layD d spare name s = q at *
  generalize synR (mvD (synR (wrD d spare s).1).1 spare name).1 = r4 at *
  generalize mvD (synR (wrD d spare s).1).1 spare name = r3 at *
  generalize synR (wrD d spare s).1 = r2 at *
  generalize wrD d spare s = r1 at *
  generalize tx spare = T1 at *
  generalize tx name = T2 at *
  generalize tx s = T3 at *
  obtain ⟨d1, k1⟩ := r1
  obtain ⟨d2, k2⟩ := r2
  obtain ⟨d3, k3⟩ := r3
  obtain ⟨d4, k4⟩ := r4
  simp only at C1 C2 C3 C4 HE
  clear h hM hM1 hM2 hM3 hn hn2
  go_enter Tryz.func121, Tryz.ntmps121
  go_wp2_with fail
  refine C1.out.mono ?_
  rintro e w1 ⟨rfl, hL⟩
  have HL1 := hid hL
  clear C1 hL
  by_cases h1 : k1 = 0
  · subst h1
    go_wp2_with fail
    refine (stepL HL1.out C2.out).mono ?_
    rintro e w2 ⟨rfl, hL⟩
    have HL2 := hid hL
    clear C2 hL HL1
    by_cases h2 : k2 = 0
    · subst h2
      go_wp2_with fail
      refine (stepL HL2.out C3.out).mono ?_
      rintro e w3 ⟨rfl, hL⟩
      have HL3 := hid hL
      clear C3 hL HL2
      by_cases h3 : k3 = 0
      · subst h3
        have HQ : Hid (q = (d4, k4)) := by have h9 := HE.out; refine hid ?_; simpa using h9
        clear HE
        go_wp2_with fail
        refine (stepL HL3.out C4.out).mono ?_
        rintro e w4 ⟨rfl, hL⟩
        have HL4 := hid hL
        clear C4 hL HL3
        go_wp2
        go_ret
        exact ⟨ret_int (by rw [HQ.out]), by rw [HQ.out]; exact HL4.out⟩
      · have hne : (k3 != 0) = true := by rw [bne_iff_ne]; exact h3
        have HQ : Hid (q = (d3, k3)) := by have h9 := HE.out; refine hid ?_; simpa [h3] using h9
        clear HE C4 h3
        go_wp2
        go_ret
        exact ⟨ret_int (by rw [HQ.out]), by rw [HQ.out]; exact HL3.out⟩
    · have hne : (k2 != 0) = true := by rw [bne_iff_ne]; exact h2
      have HQ : Hid (q = (d2, k2)) := by have h9 := HE.out; refine hid ?_; simpa [h2] using h9
      clear HE C3 C4 h2
      go_wp2
      go_ret
      exact ⟨ret_int (by rw [HQ.out]), by rw [HQ.out]; exact HL2.out⟩
  · have hne : (k1 != 0) = true := by rw [bne_iff_ne]; exact h1
    have HQ : Hid (q = (d1, k1)) := by have h9 := HE.out; refine hid ?_; simpa [h1] using h9
    clear HE C2 C3 C4 h1
    go_wp2
    go_ret
    exact ⟨ret_int (by rw [HQ.out]), by rw [HQ.out]; exact HL1.out⟩
/-- a disk on which a file can be laid whole within our bounds -/
structure LyOk (d : Ds) (spare name s : Bs) : Prop where
  m0 : d.wt + d.S.length + d.ws.length + s.length + spare.length ≤ 70368744177
  n0 : d.n ≤ 1152921504606846976
  m1 : (wrD d spare s).1.wt + (wrD d spare s).1.S.length + (wrD d spare s).1.ws.length ≤ 70368744177
  m2 : (synR (wrD d spare s).1).1.wt + (synR (wrD d spare s).1).1.S.length + (synR (wrD d spare s).1).1.ws.length + spare.length + name.length ≤ 70368744177
  n2 : (synR (wrD d spare s).1).1.n ≤ 1152921504606846976
  m3 : (mvD (synR (wrD d spare s).1).1 spare name).1.wt + (mvD (synR (wrD d spare s).1).1 spare name).1.S.length + (mvD (synR (wrD d spare s).1).1 spare name).1.ws.length ≤ 70368744177
end Go.Proofs.YtefbioainibmaaaGreatDoor
namespace Go.Proofs.YtefbioainibmaaaGreatDoor
open Go.RowKit Go.Maps
set_option linter.unusedVariables false
set_option linter.unusedSimpArgs false

end Go.Proofs.YtefbioainibmaaaGreatDoor
namespace Go.Proofs.YtefbioainibmaaaGreatDoor
open Go.RowKit Go.Maps
set_option linter.unusedVariables false
set_option linter.unusedSimpArgs false

/-- what is held while a snapshot's text is made -/
def HeldS (w0 : World) (g : Nat) (cs : List Value) (t : TypeId) (W : World) : Prop := RowIs W g cs t ∧ Below w0.heap.size w0 W
theorem HeldS.next {w0 W W' : World} {g : Nat} {cs : List Value} {t : TypeId} (h : HeldS w0 g cs t W) (hB : Below W.heap.size W W') : HeldS w0 g cs t W' :=
  ⟨h.1.keep (hB.keep (fun _ => False)) (fun h => h), h.2.trans (hB.mono h.2.size)⟩
end Go.Proofs.YtefbioainibmaaaGreatDoor
namespace Go.Proofs.YtefbioainibmaaaGreatDoor
open Go.RowKit Go.Maps
set_option linter.unusedVariables false
set_option linter.unusedSimpArgs false

/-- what maps.Keys does -/
def KeysC : Prop := ∀ (mb : Option Nat) (W : World), Calls Tryz.prog 89 #[.map mb] W fun e w' => e = .returned (.func (.func 129) #[] #[.pointer (some ⟨W.heap.size, 0, none⟩)]) ∧ w' = W.alloc (.cells #[.map mb] 118)
/-- the names, as cells -/
def nmC {α : Type} (L : List (Bs × α)) : List Value := L.map fun p => .string (tx p.1)
/-- what slices.Sorted does with that -/
def SortedC : Prop := ∀ (mo : Option Nat) (L : List (Bs × Value)) (w : World), MapV w mo L → Srt L → L.length ≤ 70368744177 →
  Calls Tryz.prog 88 #[.func (.func 129) #[] #[.pointer (some ⟨w.heap.size, 0, none⟩)]] (w.alloc (.cells #[.map mo] 118)) fun e w' => ∃ v, e = .returned v ∧ w'.ownsRow (w.heap.size + 1) 9 1 v L.length (nmC L) ∧ Keep (fun _ => False) (w.alloc (.cells #[.map mo] 118)) w'

theorem owns_same {w : World} {B n g cap k : Nat} {xs : List Value} {u : Value} (h : w.ownsRow B 9 1 (.slice (some ⟨g, 0, none⟩) n cap) n xs) (hk : xs[k]? = some u) : (w.setCell ⟨g, k, none⟩ u).ownsRow B 9 1 (.slice (some ⟨g, 0, none⟩) n cap) n xs := by
  obtain ⟨h1, h2⟩ := h
  rcases h2 with ⟨e, _⟩ | ⟨g', cap', cur, e, hg, hb, hn, hm, hs, ht⟩
  · injection e with e; cases e
  · injection e with e1 e2 e3
    injection e1 with e1
    injection e1 with e1
    subst e1
    have hcur : cur[k]? = some u := by
      have hk' : k < xs.length := (List.getElem?_eq_some_iff.1 hk).1
      rw [← ht, List.getElem?_take_of_lt (by omega)] at hk
      simpa using hk
    have hsame : cur.setIfInBounds k u = cur := by
      apply Array.ext_getElem?
      intro i
      rw [Array.getElem?_setIfInBounds]
      by_cases hi : k = i
      · subst hi
        rw [if_pos rfl, hcur]
        rw [if_pos (Array.getElem?_eq_some_iff.1 hcur).1]
      · rw [if_neg hi]
    refine ⟨h1, .inr ⟨g, cap', cur, by rw [e3], hg, ?_, hn, hm, hs, ht⟩⟩
    rw [heap_setCell_same _ _ _ _ _ _ hb, hsame]
theorem owns_cell {w : World} {B n g cap k : Nat} {xs : List Value} {u : Value} (h : w.ownsRow B 9 1 (.slice (some ⟨g, 0, none⟩) n cap) n xs) (hk : xs[k]? = some u) : w.cell? ⟨g, k, none⟩ = some u ∧ w.frozen? ⟨g, k, none⟩ = false := by
  obtain ⟨h1, h2⟩ := h
  rcases h2 with ⟨e, _⟩ | ⟨g', cap', cur, e, hg, hb, hn, hm, hs, ht⟩
  · injection e with e; cases e
  · injection e with e1 e2 e3
    injection e1 with e1
    injection e1 with e1
    subst e1
    refine ⟨?_, by unfold World.frozen?; rw [hb]; simp⟩
    rw [cell_of_row _ _ _ _ _ _ hb]
    have hk' : k < xs.length := (List.getElem?_eq_some_iff.1 hk).1
    rw [← ht, List.getElem?_take_of_lt (by omega)] at hk
    simpa using hk

set_option maxRecDepth 100000 in
set_option maxHeartbeats 2000000 in
theorem names_any (KC : KeysC) (SC : SortedC) (p : Nat) (c : Nat → Nat) (d : Ds) (w : World) (h : DiskIs w c p d) (hdn : d.dn = false) (hl : d.now.length ≤ 70368744177) (hnm : ∀ x ∈ d.now, x.1.length ≤ 80) :
    Calls Tryz.prog 41 #[.pointer (some ⟨p, 0, none⟩)] w fun e w' => ∃ v, e = .returned v ∧ w'.ownsRow w.heap.size 9 1 v d.now.length (nmC d.now) ∧ Keep (fun _ => False) w w' := by
  have hD := h.down
  rw [hdn] at hD
  have HD := hid (down_any _ false w hD)
  obtain ⟨mo, N, c0, hmv, hN, hrow⟩ := h.files (Keep.refl _ w)
  have hsrt : Srt (vals N) := by
    obtain ⟨R, hR⟩ := h
    have hS : Srt d.S := by rw [← hR.eS]; exact srt_txts.2 hR.sure.srt
    have hmv2 : ∀ x ∈ d.ws, x.kind = 2 → x.to ≠ x.name := fun x hm => by obtain ⟨i, hi, rfl⟩ := List.getElem_of_mem hm; exact (hR.oks i hi).move
    have hb := (replay_bounds d.ws d.S hS hmv2).1
    have hb2 : Srt (txts N) := by rw [hN]; exact hb
    exact (srt_map (fun x : FV => x.1)).2 (srt_txts.1 hb2)
  have hlen : (vals N).length = d.now.length := by rw [← hN]; simp [vals, txts]
  have hnc : nmC (vals N) = nmC d.now := by rw [← hN]; simp [nmC, vals, txts]
  have KY := hid (KC mo w)
  have ST := hid (SC mo (vals N) w hmv hsrt (by omega))
  rw [hlen, hnc] at ST
  have HCL : Hid (∀ k, k < d.now.length → ∃ u, (nmC d.now)[k]? = some (.string u) ∧ u.size ≤ 140737488355328) := fun k hk => ⟨tx (d.now[k]).1, by simp [nmC, hk], by rw [size_mk]; have := hnm _ (List.getElem_mem hk); omega⟩
  generalize hn : d.now.length = n at *
  generalize nmC d.now = xs at *
  clear h hD hdn hmv hN hrow hsrt hlen hnc hnm hn
  go_enter Tryz.func41, Tryz.ntmps41
  go_wp2_with fail
  refine HD.out.mono ?_
  rintro e w1 ⟨rfl, rfl⟩
  clear HD
  go_wp2_with fail
  refine KY.out.mono ?_
  rintro e w2 ⟨rfl, rfl⟩
  clear KY
  go_wp2_with fail
  refine ST.out.mono ?_
  rintro e w3 ⟨v, rfl, hr3, hk3⟩
  have hK3 : Keep (fun _ => False) w1 w3 := (keep_alloc _ _ _).trans hk3
  have hr3' : w3.ownsRow w1.heap.size 9 1 v n xs := by
    refine ⟨hr3.1, hr3.2.imp id ?_⟩
    rintro ⟨g, cap, cur, e, hg, r⟩
    exact ⟨g, cap, cur, e, by omega, r⟩
  clear ST hr3 hk3 c0
  rcases hr3'.2 with ⟨e, h0⟩ | ⟨g, cap, cur, e, hg, _⟩
  · subst e h0
    have HR := hid hr3'
    have HK := hid hK3
    clear hr3' hK3 HCL
    go_wp2
    go_loopw [17] (fun i wr => i = .int .i64 0 ∧ wr = w3) (fun _ _ => 0)
    case atStart => exact ⟨rfl, rfl⟩
    case round =>
      obtain ⟨rfl, rfl⟩ := hrel
      go_wp2
      go_ret
      exact ⟨_, rfl, HR.out, HK.out⟩
  · subst e
    have HR := hid hr3'
    have HK := hid hK3
    have HGB := hid hg
    clear hr3' hK3 hg
    go_wp2
    go_loopw [17] (fun i wr => ∃ k : Nat, k ≤ n ∧ i = .int .i64 k ∧ Hid (wr.ownsRow w1.heap.size 9 1 (.slice (some ⟨g, 0, none⟩) n cap) n xs) ∧ Hid (Keep (fun _ => False) w1 wr)) (fun i _ => n - (intOf i).toNat)
    case atStart => exact ⟨0, by omega, rfl, HR, HK⟩
    case round =>
      clear HR HK
      obtain ⟨k, hk, rfl, HR, HK⟩ := hrel
      by_cases hlt : k < n
      · have hk0 : (0 : Int) ≤ (k : Int) := by omega
        have hk1 : (k : Int) < (n : Int) := by omega
        obtain ⟨u, hu, hus⟩ := HCL.out k hlt
        have hc := (owns_cell HR.out hu).1
        have CL := hid (clone_any u wr hus)
        have AFT : Hid (∀ w5, Below wr.heap.size wr w5 → w5.cell? ⟨g, k, none⟩ = some (.string u) ∧ w5.frozen? ⟨g, k, none⟩ = false ∧ (w5.setCell ⟨g, k, none⟩ (.string u)).ownsRow w1.heap.size 9 1 (.slice (some ⟨g, 0, none⟩) n cap) n xs ∧ Keep (fun _ => False) w1 (w5.setCell ⟨g, k, none⟩ (.string u))) := by
          intro w5 hb
          have hr5 := (hb.keep (fun _ => False)).ownsRow HR.out (fun _ _ h => h)
          obtain ⟨e1, e2⟩ := owns_cell hr5 hu
          exact ⟨e1, e2, owns_same hr5 hu, (HK.out.trans (hb.keep _)).then (keep_setCell _ _ _ _) (fun j hj e => by have := HGB.out; omega)⟩
        clear HR HK HCL hu hus
        go_wp2_with fail
        refine CL.out.mono ?_
        rintro e w5 ⟨rfl, hb⟩
        obtain ⟨e1, e2, hr6, hk6⟩ := AFT.out w5 hb
        have HR := hid hr6
        have HK := hid hk6
        clear CL AFT hr6 hk6 hb
        go_wp2
        exact ⟨⟨k + 1, by omega, by go_num, HR, HK⟩, by simp [intOf]; omega⟩
      · have hd : decide ((k : Int) < (n : Int)) = false := decide_eq_false (by omega)
        clear HCL
        go_wp2
        go_ret
        exact ⟨_, rfl, HR.out, HK.out⟩
end Go.Proofs.YtefbioainibmaaaGreatDoor
namespace Go.Proofs.YtefbioainibmaaaGreatDoor
open Go.RowKit Go.Maps
set_option linter.unusedVariables false
set_option linter.unusedSimpArgs false

theorem Keep.ownsMap {S : Nat → Prop} {w w' : World} {b n : Nat} {D : DataW Value} (k : Keep S w w') (h : w.ownsMap Tryz.prog 3 rawE b n D) (hS : ¬ S b) : w'.ownsMap Tryz.prog 3 rawE b n D := by
  have hlt := h.lt
  obtain ⟨es, clock, hb, r⟩ := h
  exact ⟨es, clock, (k.block b hlt hS).trans hb, r⟩
end Go.Proofs.YtefbioainibmaaaGreatDoor
namespace Go.Proofs.YtefbioainibmaaaGreatDoor
open Go.RowKit Go.Maps
set_option linter.unusedVariables false
set_option linter.unusedSimpArgs false

section
variable (old fresh : Bs) (kp tn a : Int)
def sA : Ds := ⟨[], [⟨1, [97], [], old, 0⟩], 1, [], false, 0, false⟩
def sB : Ds := ⟨[([97], old)], [], 1, [], false, 0, false⟩
def sC : Ds := ⟨[([97], old)], [], 1, [⟨a, kp, tn⟩], false, 0, false⟩
def sD : Ds := ⟨[([97], old)], [⟨1, [98], [], fresh, 0⟩], 2, [⟨a, kp, tn⟩], false, 0, false⟩
def sE : Ds := ⟨[([97], old), ([98], fresh)], [], 2, [⟨a, kp, tn⟩], false, 0, false⟩
def sF : Ds := ⟨[([97], old), ([98], fresh)], [⟨2, [98], [97], [], 0⟩], 3, [⟨a, kp, tn⟩], false, 0, false⟩
def sG : Ds := ⟨[([97], fresh)], [], 3, [⟨a, kp, tn⟩], false, 0, false⟩
theorem ok97 : nameOk [97] = true := by decide
theorem wr_un (d : Ds) (name s : Bs) (h1 : d.dn = false) (h2 : d.bd = false) (h3 : nameOk name = true) : wrD d name s = chgD d ⟨1, name, [], s, 0⟩ := by
  unfold wrD
  rw [if_neg (by rw [h1]; decide), if_neg (by rw [h3]; decide), if_neg (by rw [h2]; unfold fitB; simp)]
theorem chg_off (d : Ds) (ch : Chg) (h : d.fl.find? (fun x => x.at_ = (d.n : Int)) = none) : chgD d ch = ({ d.more ch with n := d.n + 1 }, 0) := by unfold chgD; rw [h]
theorem w1 : wrD d0 [97] old = (sA old, 0) := by
  rw [wr_un _ _ _ rfl rfl ok97, chg_off _ _ rfl]; rfl
theorem y1 : synD (sA old) = sB old := rfl
theorem p1 : ({ sB old with fl := [⟨a, kp, tn⟩] } : Ds) = sC old kp tn a := rfl
theorem y2 : synD (sD old fresh kp tn a) = sE old fresh kp tn a := rfl
theorem y3 : synD (sF old fresh kp tn a) = sG fresh kp tn a := rfl

end
end Go.Proofs.YtefbioainibmaaaGreatDoor
namespace Go.Proofs.YtefbioainibmaaaGreatDoor
open Go.RowKit Go.Maps
set_option linter.unusedVariables false
set_option linter.unusedSimpArgs false

def d1 : Ds := (appD d0 [97] [120, 121]).1
def d2 : Ds := failD d1 0 1
def d3 : Ds := { d2 with dn := false }
end Go.Proofs.YtefbioainibmaaaGreatDoor
namespace Go.Proofs.YtefbioainibmaaaGreatDoor
open Go.RowKit Go.Maps
set_option linter.unusedVariables false
set_option linter.unusedSimpArgs false

end Go.Proofs.YtefbioainibmaaaGreatDoor
