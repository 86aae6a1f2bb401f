/- Joined: The walks of a disk's questions of room and of files. The walks of calls that are refused: the disk is down, or a name is none. The walks of calls that change files. The walks of calls that lay files anew, move them, read them. The walks of a new disk, and of the power's coming again. The walk of a file's being made what it is among others. The walk of all that waits being made sure. The walks of the calls that take files away and cut them, and of small questions. Texts, cut behind each so many bytes: extent's pieces, and the document's Cut. The document's Cut, and extent's. Laying a file whole, and clearing what was left: package whole. The walk of a disk's names, over what the library's sort of a map's keys does. The walk of falls being laid. What becomes of a disk in the law DiskMoves; nothing of the program stands here. The walk of the law's own look whether a disk works at all. The walk of the law DiskMoves. -/
import Derived.Test.YtedogofeibdjiaaGreatChangeW
import Derived.BigQuiet
import Derived.Test.YtedogofeibdjiaaGreatJoined04
import Derived.Test.YtedogofeibdjiaaGreatJoined01
import Derived.Test.YtedogofeibdjiaaGreatJoined05
namespace Go.Proofs.YtedogofeibdjiaaGreat
open Go.RowKit Go.Maps
set_option linter.unusedVariables false
set_option linter.unusedSimpArgs false

/-- is there room for more? -/
def fitB (bd : Bool) (rm : Int) (u : Nat) (more : Int) : Bool := decide (more ≤ 0) || !bd || decide ((u : Int) + more ≤ rm)
theorem keep_drewN (w : World) (n : Nat) : Keep (fun _ => False) w (w.drewN n) := by
  have := below_drewN (Below.refl w.heap.size w) n
  exact this.keep _

set_option maxRecDepth 100000 in
set_option maxHeartbeats 2000000 in
theorem fits_any (p u : Nat) (bd : Bool) (rm more : Int) (w : World) (c1 : w.cell? ⟨p, 1, none⟩ = some (.int .i64 u)) (c7 : w.cell? ⟨p, 7, none⟩ = some (.bool bd)) (c8 : w.cell? ⟨p, 8, none⟩ = some (.int .i64 rm)) (hu : u ≤ 4611686018427387904) (hm : more ≤ 4611686018427387903) :
    Calls Tryz.prog 51 #[.pointer (some ⟨p, 0, none⟩), .int .i64 more] w fun e w' => e = .returned (.bool (fitB bd rm u more)) ∧ Keep (fun _ => False) w w' := by
  by_cases h1 : more ≤ 0
  · have HE : Hid (true = fitB bd rm u more) := by show _ = _; unfold fitB; simp [h1]
    go_enter Tryz.func51, Tryz.ntmps51
    go_wp2
    go_quiet (fail)
    go_wp2
    go_ret
    exact ⟨ret_bool HE.out, keep_drewN _ _⟩
  · have hd1 : decide (more ≤ 0) = false := decide_eq_false h1
    cases bd with
    | false =>
      have HE : Hid (true = fitB false rm u more) := by show _ = _; unfold fitB; simp
      go_enter Tryz.func51, Tryz.ntmps51
      go_wp2
      go_quiet (fail)
      go_wp2
      go_ret
      exact ⟨ret_bool HE.out, keep_drewN _ _⟩
    | true =>
      have hwr : wrap64 ((u : Int) + more) = (u : Int) + more := IntWalk.wrap64_in _ (by omega)
      have HE : Hid (decide ((u : Int) + more ≤ rm) = fitB true rm u more) := by show _ = _; unfold fitB; simp [h1]
      go_enter Tryz.func51, Tryz.ntmps51
      go_wp2
      go_quiet (fail)
      go_wp2
      go_ret
      exact ⟨ret_bool HE.out, keep_drewN _ _⟩

set_option maxRecDepth 100000 in
theorem has_any (p : Nat) (mo : Option Nat) (L : List (Bs × Value)) (s : ByteArray) (w : World) (c0 : w.cell? ⟨p, 0, none⟩ = some (.map mo)) (hm : MapV w mo L) (hs : s.size ≤ maxLen) :
    Calls Tryz.prog 50 #[.pointer (some ⟨p, 0, none⟩), .string s] w fun e w' => e = .returned (.bool (kget L s.data.toList).isSome) ∧ w' = w := by
  have hl := mapV_lookok hm s hs
  generalize (kget L s.data.toList).isSome = b at hl ⊢
  generalize (kget L s.data.toList).getD (.slice none 0 0) = v at hl
  clear hm
  go_enter Tryz.func50, Tryz.ntmps50
  go_wp2
  go_ret
  exact ⟨rfl, rfl⟩
end Go.Proofs.YtedogofeibdjiaaGreat
namespace Go.Proofs.YtedogofeibdjiaaGreat
open Go.RowKit Go.Maps
set_option linter.unusedVariables false
set_option linter.unusedSimpArgs false

theorem DownIs.keep {S : Nat → Prop} {w w' : World} {dp : Value} {dn : Bool} (h : DownIs w dp dn) (k : Keep S w w') (hS : ∀ p, dp = .pointer (some ⟨p, 0, none⟩) → ¬ S p) : DownIs w' dp dn := by
  rcases h with h | ⟨p, e, h⟩
  · exact .inl h
  · refine .inr ⟨p, e, ?_⟩
    have hp := World.block_lt_of_cell? _ _ h
    exact (k.cell hp (hS p e)).trans h
/-- the names in a block of their own -/
theorem ref_call1 (dp : Value) (dn : Bool) (n : ByteArray) (w : World) (h : DownIs w dp dn) : Calls Tryz.prog 49 #[dp, .slice (some ⟨w.heap.size, 0, none⟩) 1 1] (w.alloc (.cells #[.string n] 9)) fun e w' => e = .returned (.int .i64 (refN dn [n])) ∧ w' = w.alloc (.cells #[.string n] 9) :=
  refuses_any dp dn w.heap.size [n] _ (h.keep (keep_alloc (fun _ => False) _ _) (fun _ _ h => h)) (by simp) (fun j hj => by
    have hj0 : j = 0 := by simpa using hj
    subst hj0
    rw [cell_of_row _ _ _ _ _ _ (heap_alloc_new _ _)]; rfl)
theorem ref_call2 (dp : Value) (dn : Bool) (n m : ByteArray) (w : World) (h : DownIs w dp dn) : Calls Tryz.prog 49 #[dp, .slice (some ⟨w.heap.size, 0, none⟩) 2 2] (w.alloc (.cells #[.string n, .string m] 9)) fun e w' => e = .returned (.int .i64 (refN dn [n, m])) ∧ w' = w.alloc (.cells #[.string n, .string m] 9) :=
  refuses_any dp dn w.heap.size [n, m] _ (h.keep (keep_alloc (fun _ => False) _ _) (fun _ _ h => h)) (by simp) (fun j hj => by
    have hj0 : j = 0 ∨ j = 1 := by simp at hj; omega
    rcases hj0 with rfl | rfl <;> (rw [cell_of_row _ _ _ _ _ _ (heap_alloc_new _ _)]; rfl))

set_option maxRecDepth 100000 in
theorem write_refused (dp : Value) (dn : Bool) (n s : ByteArray) (w : World) (h : DownIs w dp dn) (hr : refN dn [n] ≠ 0) : Calls Tryz.prog 19 #[dp, .string n, .string s] w fun e w' => e = .returned (.int .i64 (refN dn [n])) ∧ Keep (fun _ => False) w w' := by
  have RC := hid (ref_call1 dp dn n w h)
  have hb : (refN dn [n] != 0) = true := by rw [bne_iff_ne]; exact hr
  generalize refN dn [n] = e at *
  clear h hr
  go_enter Tryz.func19, Tryz.ntmps19
  go_wp2_with fail
  refine RC.out.mono ?_
  rintro e w1 ⟨rfl, rfl⟩
  clear RC
  go_wp2
  go_ret
  exact ⟨rfl, keep_alloc _ _ _⟩

set_option maxRecDepth 100000 in
theorem move_refused (dp : Value) (dn : Bool) (n t : ByteArray) (w : World) (h : DownIs w dp dn) (hr : refN dn [n, t] ≠ 0) : Calls Tryz.prog 70 #[dp, .string n, .string t] w fun e w' => e = .returned (.int .i64 (refN dn [n, t])) ∧ Keep (fun _ => False) w w' := by
  have RC := hid (ref_call2 dp dn n t w h)
  have hb : (refN dn [n, t] != 0) = true := by rw [bne_iff_ne]; exact hr
  generalize refN dn [n, t] = e at *
  clear h hr
  go_enter Tryz.func70, Tryz.ntmps70
  go_wp2_with fail
  refine RC.out.mono ?_
  rintro e w1 ⟨rfl, rfl⟩
  clear RC
  go_wp2
  go_ret
  exact ⟨rfl, keep_alloc _ _ _⟩

set_option maxRecDepth 100000 in
theorem remove_refused (dp : Value) (dn : Bool) (n : ByteArray) (w : World) (h : DownIs w dp dn) (hr : refN dn [n] ≠ 0) : Calls Tryz.prog 60 #[dp, .string n] w fun e w' => e = .returned (.int .i64 (refN dn [n])) ∧ Keep (fun _ => False) w w' := by
  have RC := hid (ref_call1 dp dn n w h)
  have hb : (refN dn [n] != 0) = true := by rw [bne_iff_ne]; exact hr
  generalize refN dn [n] = e at *
  clear h hr
  go_enter Tryz.func60, Tryz.ntmps60
  go_wp2_with fail
  refine RC.out.mono ?_
  rintro e w1 ⟨rfl, rfl⟩
  clear RC
  go_wp2
  go_ret
  exact ⟨rfl, keep_alloc _ _ _⟩

set_option maxRecDepth 100000 in
theorem read_refused (dp : Value) (dn : Bool) (n : ByteArray) (w : World) (h : DownIs w dp dn) (hr : refN dn [n] ≠ 0) : Calls Tryz.prog 18 #[dp, .string n] w fun e w' => e = .returned (.tuple #[.string ⟨#[]⟩, .int .i64 (refN dn [n])]) ∧ Keep (fun _ => False) w w' := by
  have RC := hid (ref_call1 dp dn n w h)
  have hb : (refN dn [n] != 0) = true := by rw [bne_iff_ne]; exact hr
  generalize refN dn [n] = e at *
  clear h hr
  go_enter Tryz.func18, Tryz.ntmps18
  go_wp2_with fail
  refine RC.out.mono ?_
  rintro e w1 ⟨rfl, rfl⟩
  clear RC
  go_wp2
  go_ret2
  exact ⟨rfl, keep_alloc _ _ _⟩
end Go.Proofs.YtedogofeibdjiaaGreat
namespace Go.Proofs.YtedogofeibdjiaaGreat
open Go.RowKit Go.Maps
set_option linter.unusedVariables false
set_option linter.unusedSimpArgs false

/-- a text of these bytes -/
abbrev tx (l : Bs) : ByteArray := ⟨l.toArray⟩
theorem tx_list (l : Bs) : (tx l).data.toList = l := by simp
theorem tx_of (s : ByteArray) : tx s.data.toList = s := by apply ByteArray.ext; simp
theorem refN1 {l : Bs} (h : nameOk l = true) : refN false [tx l] = 0 := by unfold refN; simp [h]
theorem refN2 {l m : Bs} (h : nameOk l = true) (h2 : nameOk m = true) : refN false [tx l, tx m] = 0 := by unfold refN; simp [h, h2]
theorem nameOk_len {l : Bs} (h : nameOk l = true) : l.length ≤ 80 := by unfold nameOk at h; simp at h; exact h.1.2

theorem Left.from {w W w' : World} {c : Nat → Nat} {p : Nat} {d : Ds} (k : Keep (fun _ => False) w W) (h : Left W c p d w') : Left w c p d w' := by
  obtain ⟨⟨c', hD, hc⟩, hK⟩ := h
  exact ⟨⟨c', hD, fun j hj => hc j (Nat.lt_of_lt_of_le hj k.size)⟩, (k.mono (fun _ _ h => h.elim)).trans hK⟩
theorem left_same {w w' : World} {c : Nat → Nat} {p : Nat} {d : Ds} (h : DiskIs w c p d) (k : Keep (fun _ => False) w w') : Left w c p d w' :=
  ⟨⟨c, h.keep k (fun _ _ => rfl) (fun _ _ h => h.elim), fun _ _ => rfl⟩, k.mono (fun _ _ h => h.elim)⟩
theorem DiskIs.cells {w : World} {c : Nat → Nat} {p : Nat} {d : Ds} (h : DiskIs w c p d) : w.cell? ⟨p, 1, none⟩ = some (.int .i64 (tot d.now)) ∧ w.cell? ⟨p, 5, none⟩ = some (.int .i64 d.n) ∧ w.cell? ⟨p, 7, none⟩ = some (.bool d.bd) ∧ w.cell? ⟨p, 8, none⟩ = some (.int .i64 d.rm) ∧ w.cell? ⟨p, 9, none⟩ = some (.bool d.dn) := by
  obtain ⟨R, h⟩ := h
  refine ⟨?_, h.row.cellAt (by simp [Raw.cs, dC]), h.row.cellAt (by simp [Raw.cs, dC]), h.row.cellAt (by simp [Raw.cs, dC]), h.row.cellAt (by simp [Raw.cs, dC])⟩
  rw [← h.eN]; exact h.row.cellAt (by simp [Raw.cs, dC])
theorem DiskIs.down {w : World} {c : Nat → Nat} {p : Nat} {d : Ds} (h : DiskIs w c p d) : DownIs w (.pointer (some ⟨p, 0, none⟩)) d.dn := .inr ⟨p, rfl, h.cells.2.2.2.2⟩
theorem DiskIs.tot_le {w : World} {c : Nat → Nat} {p : Nat} {d : Ds} (h : DiskIs w c p d) : tot d.now ≤ d.wt ∧ d.now.length ≤ d.S.length + d.ws.length := by
  obtain ⟨R, h⟩ := h
  have hS : Srt d.S := by rw [← h.eS]; exact srt_txts.2 h.sure.srt
  have hmv : ∀ x ∈ d.ws, x.kind = 2 → x.to ≠ x.name := fun x hm => by obtain ⟨i, hi, rfl⟩ := List.getElem_of_mem hm; exact (h.oks i hi).move
  have hb := replay_bounds d.ws d.S hS hmv
  exact ⟨hb.2.1, hb.2.2⟩
/-- a change, at a world a little further on -/
theorem chg_from {w W : World} {c : Nat → Nat} {p : Nat} {d : Ds} (h : DiskIs w c p d) (hdn : d.dn = false) (ch : Chg) (hok : ChOk d.now ch) (k : Keep (fun _ => False) w W) (hM : d.wt + d.S.length + d.ws.length + ch.s.length + ch.name.length + ch.to.length ≤ 70368744177) (hn : d.n ≤ 1152921504606846976) :
    Calls Tryz.prog 52 #[.pointer (some ⟨p, 0, none⟩), cv ch] W fun e w' => e = .returned (.int .i64 (chgD d ch).2) ∧ Left w c p (chgD d ch).1 w' := by
  obtain ⟨R, hR⟩ := h.keep k (c' := c) (fun _ _ => rfl) (fun _ _ h => h.elim)
  exact (change_any p c R d ch W hR hdn hok hM hn).mono fun e w' ⟨he, hL⟩ => ⟨he, hL.from k⟩

/-- what 'Append' makes of a disk, and what is told -/
def appD (d : Ds) (name s : Bs) : Ds × Int :=
  if d.dn then (d, 21) else if nameOk name = false then (d, 20) else if fitB d.bd d.rm (tot d.now) s.length = false then (d, 22) else chgD d ⟨0, name, [], s, 0⟩

end Go.Proofs.YtedogofeibdjiaaGreat
namespace Go.Proofs.YtedogofeibdjiaaGreat
open Go.RowKit Go.Maps
set_option linter.unusedVariables false
set_option linter.unusedSimpArgs false

/-- the files that are, as the walks take them -/
theorem DiskIs.files {w W : World} {c : Nat → Nat} {p : Nat} {d : Ds} (h : DiskIs w c p d) (k : Keep (fun _ => False) w W) : ∃ mo N, W.cell? ⟨p, 0, none⟩ = some (.map mo) ∧ MapV W mo (vals N) ∧ txts N = d.now ∧ ∀ x ∈ N, BSl W 0 x.2.1 x.2.2 := by
  obtain ⟨R, h⟩ := h.keep k (c' := c) (fun _ _ => rfl) (fun _ _ h => h.elim)
  exact ⟨R.nmo, R.N, h.row.cellAt (by simp [Raw.cs, dC]), h.now.map, h.eN, h.now.row⟩
theorem old_bsl {W : World} {N : List (Bs × FV)} (h : ∀ x ∈ N, BSl W 0 x.2.1 x.2.2) (n : Bs) : BSl W 0 (oldV N n).1 (oldV N n).2 := by
  unfold oldV
  cases hg : kget N n with
  | none => exact BSl.nil W 0
  | some v => exact h _ (kget_mem hg)

/-- what 'Write' makes of a disk, and what is told -/
def wrD (d : Ds) (name s : Bs) : Ds × Int :=
  if d.dn then (d, 21) else if nameOk name = false then (d, 20) else if fitB d.bd d.rm (tot d.now) ((s.length : Int) - (((kget d.now name).getD []).length : Int)) = false then (d, 22) else chgD d ⟨1, name, [], s, 0⟩

set_option maxRecDepth 100000 in
set_option maxHeartbeats 1000000 in
theorem write_any (p : Nat) (c : Nat → Nat) (d : Ds) (name s : Bs) (w : World) (h : DiskIs w c p d) (hM : d.wt + d.S.length + d.ws.length + s.length + name.length ≤ 70368744177) (hn : d.n ≤ 1152921504606846976) :
    Calls Tryz.prog 19 #[.pointer (some ⟨p, 0, none⟩), .string (tx name), .string (tx s)] w fun e w' => e = .returned (.int .i64 (wrD d name s).2) ∧ Left w c p (wrD d name s).1 w' := by
  have hD := h.down
  by_cases hdn : d.dn = true
  · have e : wrD d name s = (d, 21) := by unfold wrD; rw [if_pos hdn]
    rw [e]
    refine (write_refused _ _ (tx name) (tx s) w hD (by rw [hdn]; unfold refN; simp)).mono fun e w' ⟨he, hk⟩ => ⟨?_, left_same h hk⟩
    rw [he, hdn]; rfl
  have hdn' : d.dn = false := by simpa using hdn
  by_cases hnm : nameOk name = true
  · rw [hdn'] at hD
    have hkA := keep_alloc (fun _ => False) w (.cells #[.string (tx name)] 9)
    obtain ⟨c1, c5, c7, c8, c9⟩ := (h.keep hkA (c' := c) (fun _ _ => rfl) (fun _ _ h => h.elim)).cells
    obtain ⟨mo, N, c0, hmv, hN, hrow⟩ := h.files hkA
    have RC := hid (ref_call1 _ _ (tx name) w hD)
    rw [refN1 hnm] at RC
    have hsz : ((tx s).size : Int) = (s.length : Int) := by rw [size_mk]
    have htl := h.tot_le
    have hnl := nameOk_len hnm
    have hlk := mapV_look hmv (tx name) (by rw [size_mk]; unfold maxLen; omega)
    rw [tx_list, oldV_vals] at hlk
    have hbo := old_bsl hrow name
    obtain ⟨ad, cap, hov⟩ := hbo.size
    rw [hov] at hlk
    have hold : (kget d.now name).getD [] = (oldV N name).2 := by rw [← hN, oldV_txts]
    have holdl : (oldV N name).2.length ≤ tot d.now := by
      rw [← hold]
      cases hg : kget d.now name with
      | none => simp
      | some b => exact tot_get hg
    have hw : wrap64 ((s.length : Int) - ((oldV N name).2.length : Int)) = (s.length : Int) - ((oldV N name).2.length : Int) := IntWalk.wrap64_in _ (by omega)
    have FI := hid (fits_any p (tot d.now) d.bd d.rm ((s.length : Int) - ((oldV N name).2.length : Int)) _ c1 c7 c8 (by omega) (by omega))
    have hok : ChOk d.now ⟨1, name, [], s, 0⟩ := ⟨by simp, by show name.length ≤ _; unfold maxLen; omega, by simp, by simp, by simp⟩
    have CH : Hid (∀ W, Keep (fun _ => False) w W → Calls _ _ _ _ _) := fun W k => chg_from h hdn' ⟨1, name, [], s, 0⟩ hok k (by simp only [List.length_nil]; omega) hn
    unfold cv chV at CH
    have hwe : wrD d name s = if fitB d.bd d.rm (tot d.now) ((s.length : Int) - ((oldV N name).2.length : Int)) = false then (d, 22) else chgD d ⟨1, name, [], s, 0⟩ := by unfold wrD; rw [if_neg hdn, if_neg (by simp [hnm]), hold]
    generalize (oldV N name).2.length = ol at *
    cases hf : fitB d.bd d.rm (tot d.now) ((s.length : Int) - (ol : Int)) with
    | false =>
      have HE : Hid (wrD d name s = (d, 22)) := by show _ = _; rw [hwe, if_pos hf]
      rw [hf] at FI
      have HL := hid (fun w' (k : Keep (fun _ => False) w w') => left_same h k)
      have HKA := hid hkA
      rw [HE.out]
      clear h hD hdn hdn' hnm c1 c5 c7 c8 c9 htl hok CH hM hn hf hkA hwe hold holdl hov hbo hmv hN hrow hnl
      go_enter Tryz.func19, Tryz.ntmps19
      go_wp2_with fail
      refine RC.out.mono ?_
      rintro e w1 ⟨rfl, rfl⟩
      clear RC
      go_wp2_with fail
      refine FI.out.mono ?_
      rintro e w2 ⟨rfl, hk2⟩
      have HK2 := hid hk2
      clear FI hk2
      go_wp2
      go_ret
      exact ⟨rfl, HL.out _ (HKA.out.trans HK2.out)⟩
    | true =>
      have HE : Hid (wrD d name s = chgD d ⟨1, name, [], s, 0⟩) := by show _ = _; rw [hwe, if_neg (by simp [hf])]
      rw [hf] at FI
      have HKA := hid hkA
      rw [HE.out]
      clear h hD hdn hdn' hnm c1 c5 c7 c8 c9 htl hok hM hn hf hkA HE hwe hold holdl hov hbo hmv hN hrow hnl
      generalize chgD d ⟨1, name, [], s, 0⟩ = r at *
      go_enter Tryz.func19, Tryz.ntmps19
      go_wp2_with fail
      refine RC.out.mono ?_
      rintro e w1 ⟨rfl, rfl⟩
      clear RC
      go_wp2_with fail
      refine FI.out.mono ?_
      rintro e w2 ⟨rfl, hk2⟩
      have HK2 := hid hk2
      clear FI hk2 hlk c0
      go_wp2_with fail
      refine (CH.out w2 (HKA.out.trans HK2.out)).mono ?_
      rintro e w3 ⟨rfl, hL⟩
      have HL := hid hL
      clear CH hL
      go_wp2
      go_ret
      exact ⟨rfl, HL.out⟩
  · have hnm' : nameOk name = false := by simpa using hnm
    have e : wrD d name s = (d, 20) := by unfold wrD; rw [if_neg hdn, if_pos hnm']
    rw [e]
    refine (write_refused _ _ (tx name) (tx s) w hD (by rw [hdn']; unfold refN; simp [hnm'])).mono fun e w' ⟨he, hk⟩ => ⟨?_, left_same h hk⟩
    rw [he, hdn']; unfold refN; simp [hnm']

/-- what 'Read' tells -/
def rdD (d : Ds) (name : Bs) : Bs × Int :=
  if d.dn then ([], 21) else if nameOk name = false then ([], 20) else match kget d.now name with
    | none => ([], 4)
    | some b => (b, 0)

set_option maxRecDepth 100000 in
set_option maxHeartbeats 1000000 in
theorem read_any (p : Nat) (c : Nat → Nat) (d : Ds) (name : Bs) (w : World) (h : DiskIs w c p d) :
    Calls Tryz.prog 18 #[.pointer (some ⟨p, 0, none⟩), .string (tx name)] w fun e w' => e = .returned (.tuple #[.string (tx (rdD d name).1), .int .i64 (rdD d name).2]) ∧ Keep (fun _ => False) w w' := by
  have hD := h.down
  by_cases hdn : d.dn = true
  · have e : rdD d name = ([], 21) := by unfold rdD; rw [if_pos hdn]
    rw [e]
    refine (read_refused _ _ (tx name) w hD (by rw [hdn]; unfold refN; simp)).mono fun e w' ⟨he, hk⟩ => ⟨?_, hk⟩
    rw [he, hdn]; rfl
  have hdn' : d.dn = false := by simpa using hdn
  by_cases hnm : nameOk name = true
  · rw [hdn'] at hD
    have hkA := keep_alloc (fun _ => False) w (.cells #[.string (tx name)] 9)
    obtain ⟨mo, N, c0, hmv, hN, hrow⟩ := h.files hkA
    have RC := hid (ref_call1 _ _ (tx name) w hD)
    rw [refN1 hnm] at RC
    have hnl := nameOk_len hnm
    have hns : (tx name).size ≤ maxLen := by rw [size_mk]; unfold maxLen; omega
    have hlk := mapV_look hmv (tx name) hns
    have HA := hid (has_any p mo (vals N) (tx name) _ c0 hmv hns)
    rw [tx_list, oldV_vals] at hlk
    rw [tx_list, vals_get] at HA
    have htxt := (old_bsl hrow name).text
    have hre : rdD d name = match kget d.now name with | none => ([], 4) | some b => (b, 0) := by unfold rdD; rw [if_neg hdn, if_neg (by simp [hnm])]
    have hkn : kget d.now name = (kget N name).map (·.2) := by rw [← hN, txts_get]
    have HKA := hid hkA
    cases hg : kget N name with
    | none =>
      rw [hg] at HA hkn
      have hre2 : rdD d name = ([], 4) := by rw [hre, hkn]; rfl
      rw [hre2]
      clear hre2
      clear h hD hdn hdn' hnm hmv hN hrow hnl hns hre hkn hkA hlk htxt
      go_enter Tryz.func18, Tryz.ntmps18
      go_wp2_with fail
      refine RC.out.mono ?_
      rintro e w1 ⟨rfl, rfl⟩
      clear RC
      go_wp2_with fail
      refine HA.out.mono ?_
      rintro e w2 ⟨rfl, rfl⟩
      clear HA
      go_wp2
      go_ret2
      exact ⟨rfl, HKA.out⟩
    | some x =>
      have ho : oldV N name = x := by unfold oldV; rw [hg]; rfl
      rw [hg] at HA hkn
      rw [ho] at hlk htxt
      obtain ⟨v, b⟩ := x
      have hre2 : rdD d name = (b, 0) := by rw [hre, hkn]; rfl
      rw [hre2]
      clear hre2
      clear h hD hdn hdn' hnm hmv hN hrow hnl hns hre hkn hkA ho hg
      go_enter Tryz.func18, Tryz.ntmps18
      go_wp2_with fail
      refine RC.out.mono ?_
      rintro e w1 ⟨rfl, rfl⟩
      clear RC
      go_wp2_with fail
      refine HA.out.mono ?_
      rintro e w2 ⟨rfl, rfl⟩
      clear HA
      go_wp2
      go_ret2
      exact ⟨rfl, HKA.out⟩
  · have hnm' : nameOk name = false := by simpa using hnm
    have e : rdD d name = ([], 20) := by unfold rdD; rw [if_neg hdn, if_pos hnm']
    rw [e]
    refine (read_refused _ _ (tx name) w hD (by rw [hdn']; unfold refN; simp [hnm'])).mono fun e w' ⟨he, hk⟩ => ⟨?_, hk⟩
    rw [he, hdn']; unfold refN; simp [hnm']

/-- what 'Move' makes of a disk, and what is told -/
def mvD (d : Ds) (name to : Bs) : Ds × Int :=
  if d.dn then (d, 21) else if (nameOk name && nameOk to) = false then (d, 20) else if (kget d.now name).isSome = false then (d, 4) else if name = to then (d, 1) else chgD d ⟨2, name, to, [], 0⟩
theorem tx_beq (a b : Bs) : ((tx a).toList == (tx b).toList) = decide (a = b) := by
  rw [ByteArray.toList_eq, ByteArray.toList_eq, tx_list, tx_list, Bool.eq_iff_iff]
  simp

set_option maxRecDepth 100000 in
set_option maxHeartbeats 1000000 in
theorem move_any (p : Nat) (c : Nat → Nat) (d : Ds) (name to : Bs) (w : World) (h : DiskIs w c p d) (hM : d.wt + d.S.length + d.ws.length + name.length + to.length ≤ 70368744177) (hn : d.n ≤ 1152921504606846976) :
    Calls Tryz.prog 70 #[.pointer (some ⟨p, 0, none⟩), .string (tx name), .string (tx to)] w fun e w' => e = .returned (.int .i64 (mvD d name to).2) ∧ Left w c p (mvD d name to).1 w' := by
  have hD := h.down
  by_cases hdn : d.dn = true
  · have e : mvD d name to = (d, 21) := by unfold mvD; rw [if_pos hdn]
    rw [e]
    refine (move_refused _ _ (tx name) (tx to) w hD (by rw [hdn]; unfold refN; simp)).mono fun e w' ⟨he, hk⟩ => ⟨?_, left_same h hk⟩
    rw [he, hdn]; rfl
  have hdn' : d.dn = false := by simpa using hdn
  by_cases hnm : (nameOk name && nameOk to) = true
  · have hnm1 : nameOk name = true := by simp at hnm; exact hnm.1
    have hnm2 : nameOk to = true := by simp at hnm; exact hnm.2
    rw [hdn'] at hD
    have hkA := keep_alloc (fun _ => False) w (.cells #[.string (tx name), .string (tx to)] 9)
    obtain ⟨mo, N, c0, hmv, hN, hrow⟩ := h.files hkA
    have RC := hid (ref_call2 _ _ (tx name) (tx to) w hD)
    rw [refN2 hnm1 hnm2] at RC
    have hnl := nameOk_len hnm1
    have hnl2 := nameOk_len hnm2
    have hns : (tx name).size ≤ maxLen := by rw [size_mk]; unfold maxLen; omega
    have HA := hid (has_any p mo (vals N) (tx name) _ c0 hmv hns)
    have hkn : (kget (vals N) name).isSome = (kget d.now name).isSome := by rw [← hN, txts_get, vals_get]; cases kget N name <;> rfl
    rw [tx_list, hkn] at HA
    have hbe := tx_beq name to
    have HKA := hid hkA
    have HL := hid (fun w' (k : Keep (fun _ => False) w w') => left_same h k)
    cases hg : (kget d.now name).isSome with
    | false =>
      have HE : Hid (mvD d name to = (d, 4)) := by show _ = _; unfold mvD; rw [if_neg hdn, if_neg (by simp [hnm1, hnm2]), if_pos hg]
      rw [hg] at HA
      rw [HE.out]
      clear h hD hdn hdn' hnm hnm1 hnm2 hmv hN hrow hnl hnl2 hns hkn hkA hM hn hg hbe
      go_enter Tryz.func70, Tryz.ntmps70
      go_wp2_with fail
      refine RC.out.mono ?_
      rintro e w1 ⟨rfl, rfl⟩
      clear RC
      go_wp2_with fail
      refine HA.out.mono ?_
      rintro e w2 ⟨rfl, rfl⟩
      clear HA
      go_wp2
      go_ret
      exact ⟨rfl, HL.out _ HKA.out⟩
    | true =>
      rw [hg] at HA
      by_cases heq : name = to
      · have HE : Hid (mvD d name to = (d, 1)) := by show _ = _; unfold mvD; rw [if_neg hdn, if_neg (by simp [hnm1, hnm2]), if_neg (by simp [hg]), if_pos heq]
        rw [decide_eq_true heq] at hbe
        rw [HE.out]
        clear h hD hdn hdn' hnm hnm1 hnm2 hmv hN hrow hnl hnl2 hns hkn hkA hM hn hg heq HE
        generalize tx name = A at *
        generalize tx to = B at *
        go_enter Tryz.func70, Tryz.ntmps70
        go_wp2_with fail
        refine RC.out.mono ?_
        rintro e w1 ⟨rfl, rfl⟩
        clear RC
        go_wp2_with fail
        refine HA.out.mono ?_
        rintro e w2 ⟨rfl, rfl⟩
        clear HA
        go_wp2
        go_ret
        exact ⟨rfl, HL.out _ HKA.out⟩
      · have HE : Hid (mvD d name to = chgD d ⟨2, name, to, [], 0⟩) := by show _ = _; unfold mvD; rw [if_neg hdn, if_neg (by simp [hnm1, hnm2]), if_neg (by simp [hg]), if_neg heq]
        have hok : ChOk d.now ⟨2, name, to, [], 0⟩ := ⟨by simp, by show name.length ≤ _; unfold maxLen; omega, by show to.length ≤ _; unfold maxLen; omega, fun _ e => heq e.symm, by simp⟩
        have CH : Hid (∀ W, Keep (fun _ => False) w W → Calls Tryz.prog 52 #[.pointer (some ⟨p, 0, none⟩), .agg #[.int .i64 2, .string (tx name), .string (tx to), .string ⟨#[]⟩, .int .i64 0]] W fun e w' => e = .returned (.int .i64 (chgD d ⟨2, name, to, [], 0⟩).2) ∧ Left w c p (chgD d ⟨2, name, to, [], 0⟩).1 w') := fun W k => chg_from h hdn' ⟨2, name, to, [], 0⟩ hok k (by simp only [List.length_nil]; omega) hn
        rw [decide_eq_false heq] at hbe
        rw [HE.out]
        clear h hD hdn hdn' hnm hnm1 hnm2 hmv hN hrow hnl hnl2 hns hkn hkA hM hn hg heq HE hok HL
        generalize chgD d ⟨2, name, to, [], 0⟩ = r at *
        generalize tx name = A at *
        generalize tx to = B at *
        go_enter Tryz.func70, Tryz.ntmps70
        go_wp2_with fail
        refine RC.out.mono ?_
        rintro e w1 ⟨rfl, rfl⟩
        clear RC
        go_wp2_with fail
        refine HA.out.mono ?_
        rintro e w2 ⟨rfl, rfl⟩
        clear HA
        go_wp2_with fail
        refine (CH.out _ HKA.out).mono ?_
        rintro e w3 ⟨rfl, hL⟩
        have HL := hid hL
        clear CH hL
        go_wp2
        go_ret
        exact ⟨rfl, HL.out⟩
  · have hnm' : (nameOk name && nameOk to) = false := by simpa using hnm
    have e : mvD d name to = (d, 20) := by unfold mvD; rw [if_neg hdn, if_pos hnm']
    have hr : refN false [tx name, tx to] = 20 := by unfold refN; simp only [Bool.false_eq_true, if_false, List.all_cons, List.all_nil, Bool.and_true, tx_list, hnm']
    rw [e]
    refine (move_refused _ _ (tx name) (tx to) w hD (by rw [hdn', hr]; decide)).mono fun e w' ⟨he, hk⟩ => ⟨?_, left_same h hk⟩
    rw [he, hdn', hr]
end Go.Proofs.YtedogofeibdjiaaGreat
namespace Go.Proofs.YtedogofeibdjiaaGreat
open Go.RowKit Go.Maps
set_option linter.unusedVariables false
set_option linter.unusedSimpArgs false

/-- a disk without files -/
def d0 : Ds := ⟨[], [], 0, [], false, 0, false⟩
/-- the colors of a world in which one block is a disk's -/
def c0 (p : Nat) (k : Nat) : Nat := if k = p then 0 else 7
theorem fil_none (w : World) (c : Nat → Nat) (mc : Nat) : FilIs w c mc none [] := ⟨.inl ⟨rfl, rfl⟩, fun b e => (by cases e), fun x hx => (by cases hx), fun x hx => (by cases hx), fun x hx => (by cases hx), srt_nil⟩

set_option maxRecDepth 100000 in
theorem new_any (w : World) : Calls Tryz.prog 6 #[] w fun e w' => e = .returned (.pointer (some ⟨w.heap.size, 0, none⟩)) ∧ DiskIs w' (c0 w.heap.size) w.heap.size d0 ∧ Keep (fun _ => False) w w' := by
  have HD : Hid (DiskIs (w.alloc (.cells #[.map none, .int .i64 0, .map none, .int .i64 0, .slice none 0 0, .int .i64 0, .map none, .bool false, .int .i64 0, .bool false] 69)) (c0 w.heap.size) w.heap.size d0) := by
    refine ⟨⟨none, none, [], [], .slice none 0 0, none⟩, ?_, if_pos rfl, fil_none _ _ _, fil_none _ _ _, rfl, rfl, fun y hy => by simp at hy, ⟨rfl, .inl ⟨rfl, rfl⟩⟩, fun g e => by simp [Value.ownBlock] at e, .inl ⟨rfl, rfl⟩, fun m _ => rfl, fun i hi => by simp [d0] at hi, fun _ => rfl, fun y hy => by simp at hy⟩
    exact heap_alloc_new _ _
  go_enter Tryz.func6, Tryz.ntmps6
  go_wp2
  go_ret
  exact ⟨rfl, HD.out, keep_alloc _ _ _⟩

theorem Left.trans {w w1 w2 : World} {c c1 : Nat → Nat} {p : Nat} {d : Ds} (hc : ∀ k, k < w.heap.size → c1 k = c k) (hk : Keep (fun k => c k < 6) w w1) (h : Left w1 c1 p d w2) : Left w c p d w2 := by
  obtain ⟨⟨c', hD, hc'⟩, hK⟩ := h
  have hs := hk.size
  exact ⟨⟨c', hD, fun k hk => by rw [hc' k (by omega), hc k hk]⟩, hk.then hK fun j hj e => by rw [← hc j hj]; exact e⟩

set_option maxRecDepth 100000 in
theorem up_nil (w : World) : Calls Tryz.prog 36 #[.pointer none] w fun e w' => e = .returned (.bool false) ∧ w' = w := by
  go_enter Tryz.func36, Tryz.ntmps36
  go_wp2
  go_ret
  exact ⟨rfl, rfl⟩
set_option maxRecDepth 100000 in
theorem up_any (p : Nat) (c : Nat → Nat) (d : Ds) (w : World) (h : DiskIs w c p d) : Calls Tryz.prog 36 #[.pointer (some ⟨p, 0, none⟩)] w fun e w' => e = .returned (.bool d.dn) ∧ Left w c p { d with dn := false } w' := by
  obtain ⟨R, h⟩ := h
  have c9 : w.cell? ⟨p, 9, none⟩ = some (.bool d.dn) := h.row.cellAt (by simp [Raw.cs, dC])
  have f9 := h.row.frozen (o := 9)
  have HL : Hid (Left w c p { d with dn := false } (w.setCell ⟨p, 9, none⟩ (.bool false))) := by
    have k := keep_setCell w p 9 (.bool false)
    have hcp := h.cp
    have hr := h.row.set 9 (.bool false)
    refine ⟨⟨c, ⟨R, ?_, h.cp, h.now.keep' k (fun _ _ => rfl) (fun j _ e => by rw [e]; omega), h.sure.keep' k (fun _ _ => rfl) (fun j _ e => by rw [e]; omega), h.eS, h.eN, h.safe, k.ownsRow h.wrow (fun g e e2 => by have := h.wcol g e; rw [e2] at this; omega), h.wcol, h.fall.keep k (fun _ _ => rfl) (fun j _ e => by rw [e]; omega), h.unt, h.oks, h.wnil, h.xap⟩, fun _ _ => rfl⟩, k.mono fun j _ e => by rw [e]; omega⟩
    have e : (R.cs d).set 9 (.bool false) = R.cs { d with dn := false } := by simp [Raw.cs, dC]
    rw [← e]; exact hr
  clear h
  go_enter Tryz.func36, Tryz.ntmps36
  go_wp2
  go_ret
  exact ⟨rfl, HL.out⟩
/-- a loss of power, whether the disk is down or not -/
theorem fail_any (p : Nat) (c : Nat → Nat) (d : Ds) (keep torn : Int) (w : World) (h : DiskIs w c p d) (hM : d.wt + d.S.length + d.ws.length ≤ 70368744177664) :
    Calls Tryz.prog 35 #[.pointer (some ⟨p, 0, none⟩), .int .i64 keep, .int .i64 torn] w fun e w' => e = .returned (.tuple #[]) ∧ Left w c p (failD d keep torn) w' := by
  by_cases hdn : d.dn = true
  · have hd := h.down
    rw [hdn] at hd
    refine (fail_down _ keep torn w hd).mono fun e w' ⟨he, hw⟩ => ⟨he, ?_⟩
    subst hw
    have e : failD d keep torn = d := by unfold failD; rw [if_pos hdn]
    rw [e]; exact left_same h (Keep.refl _ _)
  · obtain ⟨R, hR⟩ := h
    exact fail_up p c R d keep torn w hR.f (by simpa using hdn) hM
end Go.Proofs.YtedogofeibdjiaaGreat
namespace Go.Proofs.YtedogofeibdjiaaGreat
open Go.RowKit Go.Maps
set_option linter.unusedVariables false
set_option linter.unusedSimpArgs false

section
variable {α : Type}
def takeK (L N : List (Bs × α)) (n : Bs) : List (Bs × α) := match kget N n with
  | some v => kput L n v
  | none => kdel L n
theorem takeK_get (L N : List (Bs × α)) (n m : Bs) : kget (takeK L N n) m = if m = n then kget N m else kget L m := by
  unfold takeK
  by_cases h : m = n
  · subst h
    rw [if_pos rfl]
    cases hg : kget N m with
    | some v => exact kget_put_same L m v
    | none => exact kget_del_same L m
  · rw [if_neg h]
    cases hg : kget N n with
    | some v => exact kget_put_other L v (fun e => h e.symm)
    | none => exact kget_del_other L (fun e => h e.symm)
theorem srt_takeK {L : List (Bs × α)} (h : Srt L) (N : List (Bs × α)) (n : Bs) : Srt (takeK L N n) := by
  unfold takeK
  split
  · exact srt_kput h _ _
  · exact srt_kdel h _
theorem len_takeK (L N : List (Bs × α)) (n : Bs) : (takeK L N n).length ≤ L.length + 1 := by
  unfold takeK
  split
  · exact len_kput _ _ _
  · exact Nat.le_trans (len_kdel _ _) (Nat.le_succ _)
end
theorem vals_take (L N : List (Bs × FV)) (n : Bs) : vals (takeK L N n) = takeK (vals L) (vals N) n := by
  unfold takeK
  rw [vals_get]
  cases kget N n with
  | some v => exact vals_put L n v
  | none => exact vals_del L n

/-- what 'take' leaves -/
def TakePost (pb po : Nat) (cs : List Value) (t : TypeId) (mo : Option Nat) (u : Int) (L N : List (Bs × Value)) (n : Bs) (w w' : World) : Prop :=
  ∃ mo', (mo' = mo ∨ ∃ b, mo' = some b ∧ w.heap.size ≤ b) ∧ (∀ b, mo' = some b → b ≠ pb) ∧ RowIs w' pb ((cs.set po (.map mo')).set (po + 1) (.int .i64 (wrap64 (u + (lenV ((kget N n).getD (.slice none 0 0)) - lenV ((kget L n).getD (.slice none 0 0))))))) t ∧ MapV w' mo' (takeK L N n) ∧ Keep (fun k => k = pb ∨ mo = some k) w w'
theorem wrap_add (a b : Int) : wrap64 (a + wrap64 b) = wrap64 (a + b) := by unfold wrap64; omega

set_option maxRecDepth 100000 in
set_option maxHeartbeats 1000000 in
theorem take_any (pb po : Nat) (cs : List Value) (t : TypeId) (mo : Option Nat) (u : Int) (L : List (Bs × Value)) (nmo : Option Nat) (nu : Int) (N : List (Bs × Value)) (s : ByteArray) (w : World) (hrow : RowIs w pb cs t) (h0 : cs[po]? = some (.map mo)) (h1 : cs[po + 1]? = some (.int .i64 u))
    (hm : MapV w mo L) (hN : MapV w nmo N) (hne : ∀ b, mo = some b → b ≠ pb) (hsl : ∀ x ∈ L, IsSl x.2) (hsn : ∀ x ∈ N, IsSl x.2) (hs : s.size ≤ maxLen) (hl : L.length < maxLen) :
    Calls Tryz.prog 53 #[.pointer (some ⟨pb, po, none⟩), .agg #[.map nmo, .int .i64 nu], .string s] w fun e w' => e = .returned (.tuple #[]) ∧ TakePost pb po cs t mo u L N s.data.toList w w' := by
  have ka := keep_alloc (fun _ => False) w (.cells #[.map nmo, .int .i64 nu] 65)
  have hrA := hrow.keep ka (fun h => h)
  have hmA := ka.mapV hm (fun _ _ h => h)
  have hlk := mapV_lookok (ka.mapV hN (fun _ _ h => h)) s hs
  cases hg : kget N s.data.toList with
  | some v =>
    obtain ⟨ad, n, cp, rfl⟩ := hsn _ (kget_mem hg)
    rw [hg] at hlk
    simp only [Option.getD_some, Option.isSome_some] at hlk
    have SET : Hid (Calls Tryz.prog 79 #[.pointer (some ⟨pb, po, none⟩), .string s, .slice ad n cp] (w.alloc (.cells #[.map nmo, .int .i64 nu] 65)) fun e w' => e = .returned (.tuple #[]) ∧ TakePost pb po cs t mo u L N s.data.toList w w') := by
      refine (set_any pb po cs t mo u L s ad n cp _ hrA h0 h1 hmA hne hsl hs hl).mono fun e w' ⟨he, b, hb, hbp, hr, hm', hk⟩ => ⟨he, some b, ?_, fun b' e => by injection e with e; omega, ?_, .inr ⟨b, rfl, ?_⟩, (ka.mono (fun _ _ h => h.elim)).trans hk⟩
      · rcases hb with e | e
        · exact .inl e.symm
        · exact .inr ⟨b, rfl, by rw [e]; simp⟩
      · rw [wrap_add] at hr
        rw [hg]; exact hr
      · have e : takeK L N s.data.toList = kput L s.data.toList (.slice ad n cp) := by unfold takeK; rw [hg]
        rw [e]; exact hm'
    clear hrow h0 h1 hm hN hne hsl hsn hs hl ka hrA hmA hg
    go_enter Tryz.func53, Tryz.ntmps53
    go_wp2_with fail
    refine SET.out.mono ?_
    rintro e w2 ⟨rfl, hA⟩
    have HA := hid hA
    clear SET hlk hA
    go_wp2
    go_end0
    exact ⟨rfl, HA.out⟩
  | none =>
    rw [hg] at hlk
    simp only [Option.getD_none, Option.isSome_none] at hlk
    have DR : Hid (Calls Tryz.prog 80 #[.pointer (some ⟨pb, po, none⟩), .string s] (w.alloc (.cells #[.map nmo, .int .i64 nu] 65)) fun e w' => e = .returned (.tuple #[]) ∧ TakePost pb po cs t mo u L N s.data.toList w w') := by
      refine (drop_any pb po cs t mo u L s _ hrA h0 h1 hmA hne hsl hs).mono fun e w' ⟨he, hr, hm', hk⟩ => ⟨he, mo, .inl rfl, hne, ?_, ?_, (ka.mono (fun _ _ h => h.elim)).trans hk⟩
      · rw [set_same h0, hg]
        have e : u + ((lenV ((none : Option Value).getD (.slice none 0 0)) : Nat) - (lenV ((kget L s.data.toList).getD (.slice none 0 0)) : Nat) : Int) = u - (lenV ((kget L s.data.toList).getD (.slice none 0 0)) : Nat) := by
          show u + (((0 : Nat) : Int) - _) = _
          omega
        rw [e]; exact hr
      · have e : takeK L N s.data.toList = kdel L s.data.toList := by unfold takeK; rw [hg]
        rw [e]; exact hm'
    clear hrow h0 h1 hm hN hne hsl hsn hs hl ka hrA hmA hg
    go_enter Tryz.func53, Tryz.ntmps53
    go_wp2_with fail
    refine DR.out.mono ?_
    rintro e w2 ⟨rfl, hA⟩
    have HA := hid hA
    clear DR hlk hA
    go_wp2
    go_end0
    exact ⟨rfl, HA.out⟩
end Go.Proofs.YtedogofeibdjiaaGreat
namespace Go.Proofs.YtedogofeibdjiaaGreat
open Go.RowKit Go.Maps
set_option linter.unusedVariables false
set_option linter.unusedSimpArgs false

/-- the names of ts are made sure -/
def SyncAt (w : World) (c : Nat → Nat) (p : Nat) (R : Raw) (d : Ds) (ts : List Bs) (wr : World) : Prop :=
  ∃ mo1 L1, RowIs wr p (((R.cs d).set 2 (.map mo1)).set 3 (.int .i64 (wrap64 (tot (txts L1) : Nat)))) 69 ∧ MapV wr mo1 (vals L1) ∧ Srt L1 ∧ (∀ m, kget L1 m = if m ∈ ts then kget R.N m else kget R.SL m) ∧ L1.length ≤ R.SL.length + ts.length ∧
    (∀ b, mo1 = some b → b ≠ p ∧ (b < w.heap.size → c b = 2)) ∧ Keep (fun k => k = p ∨ c k = 2) w wr

theorem tot_take {L N : List (Bs × FV)} (h : Srt L) (n : Bs) (hN : lenV (oldV N n).1 = (oldV N n).2.length) (hL : lenV (oldV L n).1 = (oldV L n).2.length) : ((tot (txts (takeK L N n)) : Nat) : Int) = (tot (txts L) : Nat) + ((lenV (oldV N n).1 : Int) - (lenV (oldV L n).1 : Int)) := by
  rw [hN, hL]
  unfold takeK
  cases hg : kget N n with
  | some v =>
    have h1 := tot_kput (srt_txts.2 h) n v.2
    rw [oldV_txts] at h1
    have h2 : oldV N n = v := by unfold oldV; rw [hg]; rfl
    simp only
    rw [txts_put, h2]
    omega
  | none =>
    have h1 := tot_kdel (srt_txts.2 h) n
    rw [oldV_txts] at h1
    have h2 : oldV N n = (.slice none 0 0, []) := by unfold oldV; rw [hg]; rfl
    simp only
    rw [txts_del, h2]
    simp only [List.length_nil]
    omega

theorem sync_step {w wr W : World} {c : Nat → Nat} {p : Nat} {R : Raw} {d : Ds} (h : DiskR w c p R d) (ts : List Bs) (ha : SyncAt w c p R d ts wr) (name : Bs) (hn : name.length ≤ maxLen) (hlen : R.SL.length + ts.length < maxLen) (k : Keep (fun _ => False) wr W) :
    Calls Tryz.prog 53 #[.pointer (some ⟨p, 2, none⟩), .agg #[.map R.nmo, .int .i64 (tot (txts R.N))], .string (tx name)] W fun e w' => e = .returned (.tuple #[]) ∧ (∀ g o v, g ≠ p → W.cell? ⟨g, o, none⟩ = some v → w'.cell? ⟨g, o, none⟩ = some v) ∧ w'.cell? ⟨p, 0, none⟩ = some (.map R.nmo) ∧ w'.cell? ⟨p, 1, none⟩ = some (.int .i64 (tot (txts R.N))) ∧ SyncAt w c p R d (ts ++ [name]) w' := by
  obtain ⟨mo1, L1, hr, hm, hs, hg, hl, hmo, hk⟩ := ha
  have hp := h.row.lt
  have hcp := h.cp
  have hK : Keep (fun k => k = p ∨ c k = 2) w W := hk.trans (k.mono (fun _ _ h => h.elim))
  have hnow : FilIs W c 1 R.nmo R.N := h.now.keep' hK (fun _ _ => rfl) (fun j _ e => by rcases e with rfl | e <;> omega)
  have hsz := hk.size
  have hszW := k.size
  have hvals : ∀ m, ∀ v, kget L1 m = some v → BSl w 0 v.1 v.2 := by
    intro m v e
    rw [hg] at e
    split at e
    · exact h.now.row _ (kget_mem e)
    · exact h.sure.row _ (kget_mem e)
  have hsl : ∀ x ∈ vals L1, IsSl x.2 := by
    intro x hx
    obtain ⟨y, hy, rfl⟩ := List.mem_map.1 hx
    exact bsl_isSl (hvals y.1 y.2 (srt_mem hs hy))
  have holdL : lenV (oldV L1 name).1 = (oldV L1 name).2.length := by
    unfold oldV
    cases e : kget L1 name with
    | none => rfl
    | some v => exact bsl_len (hvals _ _ e)
  have holdN := bsl_len (h.now.old name)
  have hlt : ∀ b, mo1 = some b → b < wr.heap.size := fun b e => by
    rcases hm with ⟨h0, _⟩ | ⟨b', h0, hm⟩
    · rw [h0] at e; cases e
    · rw [h0] at e; injection e with e; subst e; exact hm.lt
  refine (take_any p 2 _ _ mo1 (wrap64 (tot (txts L1) : Nat)) (vals L1) R.nmo (tot (txts R.N) : Nat) (vals R.N) (tx name) W (hr.keep k (fun h => h)) (by simp [Raw.cs, dC]) (by simp [Raw.cs, dC]) (k.mapV hm (fun _ _ h => h)) hnow.map (fun b e => (hmo b e).1) hsl hnow.sl (by rw [size_mk]; exact hn) (by simp [vals]; omega)).mono fun e w' ⟨he, mo2, hmo2, hne2, hr2, hm2, hk2⟩ => ⟨he, ?_, ?_, ?_, ?_⟩
  · intro g o v h1 h2
    refine (hk2.cell (World.block_lt_of_cell? _ _ h2) ?_).trans h2
    rintro (e | e)
    · exact h1 e
    · rcases k.mapV hm (fun _ _ h => h) with ⟨h0, _⟩ | ⟨b', h0, es, clock, hb, _⟩
      · rw [h0] at e; cases e
      · rw [h0] at e; injection e with e; subst e
        simp [World.cell?, hb] at h2
  · rw [hr2.cell]; simp [Raw.cs, dC]
  · rw [hr2.cell]; simp [Raw.cs, dC]
  · rw [tx_list] at hr2 hm2
    rw [oldV_vals, oldV_vals] at hr2
    refine ⟨mo2, takeK L1 R.N name, ?_, by rw [vals_take]; exact hm2, srt_takeK hs _ _, fun m => ?_, ?_, fun b e => ⟨hne2 b e, fun hb => ?_⟩, hK.then hk2 fun j hj e => ?_⟩
    · rw [set_ext] at hr2
      have e : wrap64 (wrap64 (tot (txts L1) : Nat) + ((lenV (oldV R.N name).1 : Int) - (lenV (oldV L1 name).1 : Int))) = wrap64 (tot (txts (takeK L1 R.N name)) : Nat) := by
        rw [tot_take hs name holdN holdL, Int.add_comm, wrap_add, Int.add_comm]
      rw [e] at hr2
      exact hr2
    · rw [takeK_get, hg m]
      by_cases e : m = name
      · subst e; simp
      · rw [if_neg e]
        simp [e]
    · have := len_takeK L1 R.N name
      simp only [List.length_append, List.length_singleton]
      omega
    · rcases hmo2 with e2 | ⟨b', e2, hb'⟩
      · exact (hmo b (e2 ▸ e)).2 hb
      · rw [e2] at e; injection e with e; omega
    · rcases e with e | e
      · exact .inl e
      · exact .inr ((hmo j e).2 hj)

/-- what 'Sync' makes of a disk -/
def synD (d : Ds) : Ds := { d with S := d.now, ws := [] }
def touched (ws : List Chg) : List Bs := ws.flatMap fun ch => [ch.name, ch.to]
theorem touched_len (ws : List Chg) : (touched ws).length = 2 * ws.length := by
  induction ws with
  | nil => rfl
  | cons x r ih => simp [touched] at ih ⊢; omega
theorem touched_snoc (ws : List Chg) (k : Nat) (hk : k < ws.length) : touched (ws.take (k + 1)) = (touched (ws.take k) ++ [ws[k].name]) ++ [ws[k].to] := by
  unfold touched
  rw [List.take_succ_eq_append_getElem hk, List.flatMap_append]
  simp only [List.flatMap_cons, List.flatMap_nil, List.append_nil, List.append_assoc, List.cons_append, List.nil_append]

theorem sync_end {w wr : World} {c : Nat → Nat} {p : Nat} {R : Raw} {d : Ds} (h : DiskR w c p R d) (hM : tot d.now ≤ 4611686018427387904) (ha : SyncAt w c p R d (touched d.ws) wr) : wr.cell? ⟨p, 4, none⟩ = some R.wv ∧ wr.frozen? ⟨p, 4, none⟩ = false ∧ Left w c p (synD d) (wr.setCell ⟨p, 4, none⟩ (.slice none 0 0)) := by
  obtain ⟨mo1, L1, hr, hm, hs, hg, hl, hmo, hk⟩ := ha
  refine ⟨by rw [hr.cell]; simp [Raw.cs, dC], hr.frozen, ?_⟩
  have hun : ∀ m, m ∉ touched d.ws → ∀ ch ∈ d.ws, m ≠ ch.name ∧ m ≠ ch.to := fun m hnm ch hc => by
    unfold touched at hnm
    simp only [List.mem_flatMap, not_exists, not_and] at hnm
    have := hnm ch hc
    simp at this
    exact this
  /- each file is one of those that are, or one that was sure and was not touched -/
  have who : ∀ x ∈ L1, x ∈ R.N ∨ (x ∈ R.SL ∧ ∀ ch ∈ d.ws, x.1 ≠ ch.name ∧ x.1 ≠ ch.to) := fun x hx => by
    have h1 := srt_mem hs (show (x.1, x.2) ∈ L1 from hx)
    rw [hg x.1] at h1
    by_cases ht : x.1 ∈ touched d.ws
    · rw [if_pos ht] at h1; exact .inl (kget_mem h1)
    · rw [if_neg ht] at h1; exact .inr ⟨kget_mem h1, hun _ ht⟩
  have hLN : txts L1 = txts R.N := srt_ext (srt_txts.2 hs) (srt_txts.2 h.now.srt) fun m => by
    rw [txts_get, hg m]
    by_cases ht : m ∈ touched d.ws
    · rw [if_pos ht, ← txts_get]
    · rw [if_neg ht, ← txts_get]; exact (h.unt m (hun m ht)).symm
  have ht : tot (txts R.N) ≤ 4611686018427387904 := by rw [h.eN]; exact hM
  have htot : wrap64 ((tot (txts R.N) : Nat) : Int) = (tot (txts R.N) : Nat) := IntWalk.wrap64_in _ (by omega)
  rw [hLN, htot] at hr
  have hr4 := hr.set 4 (.slice none 0 0)
  have k4 := keep_setCell wr p 4 (.slice none 0 0)
  generalize wr.setCell ⟨p, 4, none⟩ (.slice none 0 0) = w4 at hr4 k4 ⊢
  have K : Keep (fun k => k = p ∨ c k = 2) w w4 := hk.then k4 (fun j _ e => .inl e)
  have hcp := h.cp
  have hp := h.row.lt
  have hcol : ∀ k, k < w.heap.size → (if mo1 = some k then 2 else c k) = c k := fun k hk => by
    by_cases e : mo1 = some k
    · rw [if_pos e, (hmo k e).2 hk]
    · rw [if_neg e]
  have hnow : FilIs w4 (fun k => if mo1 = some k then 2 else c k) 1 R.nmo R.N := h.now.keep' K hcol (fun j _ e => by rcases e with rfl | e <;> omega)
  have hbs : ∀ x ∈ R.SL, BSl w4 0 x.2.1 x.2.2 ∧ ∀ g, x.2.1.ownBlock = some g → (if mo1 = some g then 2 else c g) = 3 := fun x hx => by
    refine ⟨K.bsl (h.sure.row x hx) (fun g e hS => ?_), fun g e => by rw [hcol g (bsl_block (h.sure.row x hx) e)]; exact h.sure.col x hx g e⟩
    have := h.sure.col x hx g e
    rcases hS with rfl | e2 <;> omega
  have hx2 : ∀ y ∈ L1, ∀ x ∈ R.N, x.1 ≠ y.1 → ∀ g, x.2.1.ownBlock = some g → y.2.1.ownBlock ≠ some g := fun y hy x hx hxy g e => by
    rcases who y hy with h1 | ⟨h1, h2⟩
    · exact h.now.apart x hx y h1 hxy g e
    · exact h.xap y h1 h2 x hx hxy g e
  refine ⟨⟨fun k => if mo1 = some k then 2 else c k, ⟨⟨R.nmo, mo1, R.N, L1, .slice none 0 0, R.fm⟩, ?_⟩, hcol⟩, K.mono fun j _ e => by rcases e with rfl | e <;> omega⟩
  have hsure : FilIs w4 (fun k => if mo1 = some k then 2 else c k) 2 mo1 L1 := by
    refine ⟨k4.mapV hm (fun b e e2 => (hmo b e).1 e2), fun b e => if_pos e, fun x hx => ?_, fun x hx => ?_, fun x hx y hy hxy g e e2 => ?_, hs⟩
    · rcases who x hx with h1 | ⟨h1, _⟩
      · exact hnow.row x h1
      · exact (hbs x h1).1
    · rcases who x hx with h1 | ⟨h1, _⟩
      · exact hnow.col x h1
      · exact (hbs x h1).2
    · rcases who x hx with h1 | ⟨h1, _⟩
      · exact hx2 y hy x h1 hxy g e e2
      · rcases who y hy with h3 | ⟨h3, _⟩
        · exact hx2 x hx y h3 (Ne.symm hxy) g e2 e
        · exact h.sure.apart x h1 y h3 hxy g e e2
  refine ⟨?_, ?_, hnow, hsure, hLN.trans h.eN, h.eN, fun y hy => ?_, ⟨rfl, .inl ⟨rfl, rfl⟩⟩, fun g e => by simp [Value.ownBlock] at e, h.fall.keep K hcol (fun j _ e => by rcases e with rfl | e <;> omega), fun m _ => by rw [hLN], fun i hi => by simp [synD] at hi, fun _ => rfl, fun y hy _ => hx2 y hy⟩
  · have e : (((R.cs d).set 2 (.map mo1)).set 3 (.int .i64 (tot (txts R.N)))).set 4 (.slice none 0 0) = Raw.cs ⟨R.nmo, mo1, R.N, L1, .slice none 0 0, R.fm⟩ (synD d) := by simp [Raw.cs, dC, synD, hLN]
    rw [← e]; exact hr4
  · show (if mo1 = some p then 2 else c p) = 0
    rw [hcol p hp]; exact hcp
  · rcases who y hy with h1 | ⟨h1, _⟩
    · exact safe_self hnow y h1
    · exact h.safe y h1

set_option maxRecDepth 100000 in
set_option maxHeartbeats 4000000 in
theorem sync_up (p : Nat) (c : Nat → Nat) (R : Raw) (d : Ds) (w : World) (h : DiskR w c p R d) (hdn : d.dn = false) (hM : d.wt + d.S.length + d.ws.length ≤ 70368744177) :
    Calls Tryz.prog 20 #[.pointer (some ⟨p, 0, none⟩)] w fun e w' => e = .returned (.int .i64 0) ∧ Left w c p (synD d) w' := by
  obtain ⟨ad, wc, hwc⟩ : ∃ ad cp, R.wv = .slice ad d.ws.length cp := by
    rcases h.wrow.2 with ⟨e, h0⟩ | ⟨g, cap, cur, e, _⟩
    · exact ⟨none, 0, by rw [e, h0]⟩
    · exact ⟨_, _, e⟩
  have d4 : w.cell? ⟨p, 4, none⟩ = some R.wv := h.row.cellAt (by simp [Raw.cs, dC])
  rw [hwc] at d4
  have d9 : w.cell? ⟨p, 9, none⟩ = some (.bool d.dn) := h.row.cellAt (by simp [Raw.cs, dC])
  rw [hdn] at d9
  have HD := hid (down_any (.pointer (some ⟨p, 0, none⟩)) false w (.inr ⟨p, rfl, d9⟩))
  have hlen : d.ws.length ≤ 70368744177 := by omega
  have hSL : R.SL.length = d.S.length := by rw [← h.eS]; simp [txts]
  have HST : Hid (∀ (k : Nat) (hk : k < d.ws.length) (wr : World), SyncAt w c p R d (touched (d.ws.take k)) wr → ∃ g, ad = some ⟨g, 0, none⟩ ∧ (∀ j, j < 5 → wr.cell? ⟨g, k * 5 + j, none⟩ = (chC d.ws[k])[j]?) ∧ wr.cell? ⟨p, 0, none⟩ = some (.map R.nmo) ∧ wr.cell? ⟨p, 1, none⟩ = some (.int .i64 (tot (txts R.N))) ∧
      (∀ W, Keep (fun _ => False) wr W → Calls Tryz.prog 53 #[.pointer (some ⟨p, 2, none⟩), .agg #[.map R.nmo, .int .i64 (tot (txts R.N))], .string (tx d.ws[k].name)] W fun e w' => e = .returned (.tuple #[]) ∧ (∀ g o v, g ≠ p → W.cell? ⟨g, o, none⟩ = some v → w'.cell? ⟨g, o, none⟩ = some v) ∧ w'.cell? ⟨p, 0, none⟩ = some (.map R.nmo) ∧ w'.cell? ⟨p, 1, none⟩ = some (.int .i64 (tot (txts R.N))) ∧ SyncAt w c p R d (touched (d.ws.take k) ++ [d.ws[k].name]) w')) := by
    intro k hk wr ha
    have ha' := ha
    obtain ⟨mo1, L1, hr, hm, hs, hg, hl, hmo, hkp⟩ := ha
    have hrow : wr.ownsRow 0 90 5 R.wv d.ws.length (chs d.ws) := hkp.ownsRow h.wrow fun g e hS => by
      have h4 := h.wcol g e
      have hcp := h.cp
      rcases hS with rfl | e2 <;> omega
    rw [hwc] at hrow
    obtain ⟨g, hg, hcl⟩ := wait_cells hrow k hk
    refine ⟨g, hg, fun j hj => by rw [Nat.mul_comm]; exact hcl j hj, by rw [hr.cell]; simp [Raw.cs, dC], by rw [hr.cell]; simp [Raw.cs, dC], fun W hW => sync_step h _ ha' d.ws[k].name (h.oks k hk).name ?_ hW⟩
    rw [touched_len, List.length_take, hSL]; unfold maxLen; omega
  have HS2 : Hid (∀ (k : Nat) (hk : k < d.ws.length) (wr : World), SyncAt w c p R d (touched (d.ws.take k) ++ [d.ws[k].name]) wr → ∀ W, Keep (fun _ => False) wr W → Calls Tryz.prog 53 #[.pointer (some ⟨p, 2, none⟩), .agg #[.map R.nmo, .int .i64 (tot (txts R.N))], .string (tx d.ws[k].to)] W fun e w' => e = .returned (.tuple #[]) ∧ (∀ g o v, g ≠ p → W.cell? ⟨g, o, none⟩ = some v → w'.cell? ⟨g, o, none⟩ = some v) ∧ w'.cell? ⟨p, 0, none⟩ = some (.map R.nmo) ∧ w'.cell? ⟨p, 1, none⟩ = some (.int .i64 (tot (txts R.N))) ∧ SyncAt w c p R d (touched (d.ws.take (k + 1))) w') := by
    intro k hk wr ha W hW
    rw [touched_snoc _ _ hk]
    refine sync_step h _ ha d.ws[k].to (h.oks k hk).to ?_ hW
    rw [List.length_append, touched_len, List.length_take, hSL]; simp only [List.length_singleton]; unfold maxLen; omega
  have HEND : Hid (∀ wr, SyncAt w c p R d (touched d.ws) wr → wr.cell? ⟨p, 4, none⟩ = some (.slice ad d.ws.length wc) ∧ wr.frozen? ⟨p, 4, none⟩ = false ∧ Left w c p (synD d) (wr.setCell ⟨p, 4, none⟩ (.slice none 0 0))) := fun wr ha => by rw [← hwc]; exact sync_end h (by have := (DiskIs.tot_le ⟨R, h⟩).1; omega) ha
  have H0 : Hid (SyncAt w c p R d (touched (d.ws.take 0)) w) := by
    refine ⟨R.smo, R.SL, ?_, h.sure.map, h.sure.srt, fun m => ?_, Nat.le_add_right _ _, fun b e => ⟨fun e2 => ?_, fun _ => h.sure.mcol b e⟩, Keep.refl _ _⟩
    · have ht : tot (txts R.SL) ≤ 4611686018427387904 := by rw [h.eS]; have : tot d.S ≤ d.wt := Nat.le_add_right _ _; omega
      rw [IntWalk.wrap64_in _ (by omega), set_same (by simp [Raw.cs, dC]), set_same (by simp [Raw.cs, dC])]; exact h.row
    · simp [touched]
    · have h1 := h.sure.mcol b e
      have h2 := h.cp
      rw [e2] at h1; omega
  clear h hdn hM d9 hSL hwc
  go_enter Tryz.func20, Tryz.ntmps20
  go_wp2_with fail
  refine HD.out.mono ?_
  rintro e w1 ⟨rfl, rfl⟩
  clear HD
  go_wp2
  go_loopw [12] (fun i wr => ∃ k : Nat, k ≤ d.ws.length ∧ i = .int .i64 k ∧ Hid (SyncAt w1 c p R d (touched (d.ws.take k)) wr)) (fun i _ => d.ws.length - (intOf i).toNat)
  case atStart => exact ⟨0, by omega, rfl, H0⟩
  case round =>
    clear H0
    obtain ⟨k, hk, rfl, HA⟩ := hrel
    by_cases hlt : k < d.ws.length
    · have hk0 : (0 : Int) ≤ (k : Int) := by omega
      have hk1 : (k : Int) < (d.ws.length : Int) := by omega
      obtain ⟨g, hg, hcl, p0, p1, hT1⟩ := HST.out k hlt wr HA.out
      have T1 := hid hT1
      have T2 := hid (HS2.out k hlt)
      have q0 := hcl 0 (by omega)
      have q1 := hcl 1 (by omega)
      have q2 := hcl 2 (by omega)
      have q3 := hcl 3 (by omega)
      have q4 := hcl 4 (by omega)
      clear hcl hT1 HST HS2 HEND d4 HA
      generalize d.ws[k] = ch at *
      simp only [chC, List.getElem?_cons_zero, List.getElem?_cons_succ, Nat.add_zero] at q0 q1 q2 q3 q4
      subst hg
      have hpw : p ≠ wr.heap.size := fun e => by have := World.block_lt_of_cell? _ _ p0; simp at this; omega
      have hwp : wr.heap.size ≠ p := fun e => hpw e.symm
      have BX : Hid (∀ W : World, W.heap = (wr.alloc (.cells #[.int .i64 ch.kind, .string ⟨ch.name.toArray⟩, .string ⟨ch.to.toArray⟩, .string ⟨ch.s.toArray⟩, .int .i64 ch.long] 90)).heap → W.cell? ⟨p, 0, none⟩ = some (.map R.nmo) ∧ W.cell? ⟨p, 1, none⟩ = some (.int .i64 (tot (txts R.N))) ∧ W.cell? ⟨wr.heap.size, 1, none⟩ = some (.string ⟨ch.name.toArray⟩) ∧ W.cell? ⟨wr.heap.size, 2, none⟩ = some (.string ⟨ch.to.toArray⟩)) := by
        intro W hW
        have e : ∀ a, W.cell? a = (wr.alloc (.cells #[.int .i64 ch.kind, .string ⟨ch.name.toArray⟩, .string ⟨ch.to.toArray⟩, .string ⟨ch.s.toArray⟩, .int .i64 ch.long] 90)).cell? a := fun a => by simp [World.cell?, hW]
        have hb := box_new wr ch
        have ka := keep_alloc (fun _ => False) wr (.cells #[.int .i64 ch.kind, .string ⟨ch.name.toArray⟩, .string ⟨ch.to.toArray⟩, .string ⟨ch.s.toArray⟩, .int .i64 ch.long] 90)
        have hp : p < wr.heap.size := by have := World.block_lt_of_cell? _ _ p0; simpa using this
        rw [e, e, e, e]
        exact ⟨(ka.cell hp (fun h => h)).trans p0, (ka.cell hp (fun h => h)).trans p1, hb.2.1, hb.2.2.1⟩
      have BX0 := hid (BX.out (wr.alloc (.cells #[.int .i64 ch.kind, .string ⟨ch.name.toArray⟩, .string ⟨ch.to.toArray⟩, .string ⟨ch.s.toArray⟩, .int .i64 ch.long] 90)) rfl)
      have BX1 := hid (BX.out (wr.alloc (.cells #[.int .i64 ch.kind, .string ⟨ch.name.toArray⟩, .string ⟨ch.to.toArray⟩, .string ⟨ch.s.toArray⟩, .int .i64 ch.long] 90)).drew rfl)
      have U1 : Hid (∀ X, (wr.alloc X).drew.cell? ⟨wr.heap.size, 1, none⟩ = some (.string ⟨ch.name.toArray⟩) → (wr.alloc X).drew.cell? ⟨wr.heap.size, 2, none⟩ = some (.string ⟨ch.to.toArray⟩) → Calls Tryz.prog 53 #[.pointer (some ⟨p, 2, none⟩), .agg #[.map R.nmo, .int .i64 (tot (txts R.N))], .string ⟨ch.name.toArray⟩] (wr.alloc X).drew fun e w' => e = .returned (.tuple #[]) ∧ (w'.cell? ⟨p, 0, none⟩ = some (.map R.nmo) ∧ w'.cell? ⟨p, 1, none⟩ = some (.int .i64 (tot (txts R.N))) ∧ w'.cell? ⟨wr.heap.size, 1, none⟩ = some (.string ⟨ch.name.toArray⟩) ∧ w'.cell? ⟨wr.heap.size, 2, none⟩ = some (.string ⟨ch.to.toArray⟩)) ∧ SyncAt w1 c p R d (touched (d.ws.take k) ++ [ch.name]) w') :=
        fun X h1 h2 => (T1.out _ ((keep_alloc _ _ _).trans (keep_drew _ _))).mono fun e w' ⟨he, hc, e0, e1, hS⟩ => ⟨he, ⟨e0, e1, hc _ _ _ hwp h1, hc _ _ _ hwp h2⟩, hS⟩
      have U2 : Hid (∀ w2, SyncAt w1 c p R d (touched (d.ws.take k) ++ [ch.name]) w2 → w2.cell? ⟨wr.heap.size, 1, none⟩ = some (.string ⟨ch.name.toArray⟩) → w2.cell? ⟨wr.heap.size, 2, none⟩ = some (.string ⟨ch.to.toArray⟩) → Calls Tryz.prog 53 #[.pointer (some ⟨p, 2, none⟩), .agg #[.map R.nmo, .int .i64 (tot (txts R.N))], .string ⟨ch.to.toArray⟩] w2.drew fun e w' => e = .returned (.tuple #[]) ∧ (w'.cell? ⟨p, 0, none⟩ = some (.map R.nmo) ∧ w'.cell? ⟨p, 1, none⟩ = some (.int .i64 (tot (txts R.N))) ∧ w'.cell? ⟨wr.heap.size, 1, none⟩ = some (.string ⟨ch.name.toArray⟩) ∧ w'.cell? ⟨wr.heap.size, 2, none⟩ = some (.string ⟨ch.to.toArray⟩)) ∧ SyncAt w1 c p R d (touched (d.ws.take (k + 1))) w') :=
        fun w2 hS h1 h2 => (T2.out w2 hS w2.drew (keep_drew _ _)).mono fun e w' ⟨he, hc, e0, e1, hS⟩ => ⟨he, ⟨e0, e1, hc _ _ _ hwp h1, hc _ _ _ hwp h2⟩, hS⟩
      clear T1 T2 BX
      go_wp2
      go_region_held3 (fun w' => w'.cell? ⟨p, 0, none⟩ = some (.map R.nmo) ∧ w'.cell? ⟨p, 1, none⟩ = some (.int .i64 (tot (txts R.N))) ∧ w'.cell? ⟨wr.heap.size, 1, none⟩ = some (.string ⟨ch.name.toArray⟩) ∧ w'.cell? ⟨wr.heap.size, 2, none⟩ = some (.string ⟨ch.to.toArray⟩)) (first | with_reducible assumption | with_reducible (exact BX0.out) | with_reducible (exact BX1.out)) ((go_at_call 53; with_reducible (refine (U1.out _ ?_ ?_).mono ?_); with_reducible (exact BX1.out.2.2.1); with_reducible (exact BX1.out.2.2.2); rintro e w2 ⟨rfl, hb2, hS2⟩))
      all_goals
        have V2 := hid (U2.out w2 hS2 hb2.2.2.1 hb2.2.2.2)
        have B2 := hid hb2
        have B2d : Hid (w2.drew.cell? ⟨p, 0, none⟩ = some (.map R.nmo) ∧ w2.drew.cell? ⟨p, 1, none⟩ = some (.int .i64 (tot (txts R.N))) ∧ w2.drew.cell? ⟨wr.heap.size, 1, none⟩ = some (.string ⟨ch.name.toArray⟩) ∧ w2.drew.cell? ⟨wr.heap.size, 2, none⟩ = some (.string ⟨ch.to.toArray⟩)) := hb2
        clear U1 U2 hS2 hb2 BX0 BX1 q0 q1 q2 q3 q4 p0 p1
        go_wp2
        go_region_held3 (fun w' => w'.cell? ⟨p, 0, none⟩ = some (.map R.nmo) ∧ w'.cell? ⟨p, 1, none⟩ = some (.int .i64 (tot (txts R.N))) ∧ w'.cell? ⟨wr.heap.size, 1, none⟩ = some (.string ⟨ch.name.toArray⟩) ∧ w'.cell? ⟨wr.heap.size, 2, none⟩ = some (.string ⟨ch.to.toArray⟩)) (first | with_reducible assumption | with_reducible (exact B2.out) | with_reducible (exact B2d.out)) ((go_at_call 53; with_reducible (refine V2.out.mono ?_); rintro e w3 ⟨rfl, hb3, hS3⟩))
        all_goals
          have HA := hid hS3
          clear V2 hS3 hb3 B2 B2d
          go_wp2
          exact ⟨⟨k + 1, by omega, by go_num, HA⟩, by simp [intOf]; omega⟩
    · have hd : decide ((k : Int) < (d.ws.length : Int)) = false := decide_eq_false (by omega)
      have hkl : d.ws.take k = d.ws := List.take_of_length_le (by omega)
      rw [hkl] at HA
      obtain ⟨e4, f4, hL⟩ := HEND.out wr HA.out
      have HL := hid hL
      clear HST HS2 HEND HA hL d4 hkl
      go_wp2
      go_ret
      exact ⟨rfl, HL.out⟩
theorem sync_any (p : Nat) (c : Nat → Nat) (d : Ds) (w : World) (h : DiskIs w c p d) (hdn : d.dn = false) (hM : d.wt + d.S.length + d.ws.length ≤ 70368744177) :
    Calls Tryz.prog 20 #[.pointer (some ⟨p, 0, none⟩)] w fun e w' => e = .returned (.int .i64 0) ∧ Left w c p (synD d) w' := by
  obtain ⟨R, hR⟩ := h
  exact sync_up p c R d w hR hdn hM
end Go.Proofs.YtedogofeibdjiaaGreat
namespace Go.Proofs.YtedogofeibdjiaaGreat
open Go.RowKit Go.Maps
set_option linter.unusedVariables false
set_option linter.unusedSimpArgs false

/-- what 'Remove' makes of a disk, and what is told -/
def rmD (d : Ds) (name : Bs) : Ds × Int :=
  if d.dn then (d, 21) else if nameOk name = false then (d, 20) else if (kget d.now name).isSome = false then (d, 4) else chgD d ⟨3, name, [], [], 0⟩
/-- what 'Cut' makes of a disk, and what is told -/
def cuD (d : Ds) (name : Bs) (l : Int) : Ds × Int :=
  if d.dn then (d, 21) else if nameOk name = false then (d, 20) else if (kget d.now name).isSome = false then (d, 4) else if l < 0 ∨ ((((kget d.now name).getD []).length : Nat) : Int) < l then (d, 1) else chgD d ⟨4, name, [], [], l.toNat⟩

set_option maxRecDepth 100000 in
set_option maxHeartbeats 1000000 in
theorem remove_any (p : Nat) (c : Nat → Nat) (d : Ds) (name : Bs) (w : World) (h : DiskIs w c p d) (hM : d.wt + d.S.length + d.ws.length + name.length ≤ 70368744177) (hn : d.n ≤ 1152921504606846976) :
    Calls Tryz.prog 60 #[.pointer (some ⟨p, 0, none⟩), .string (tx name)] w fun e w' => e = .returned (.int .i64 (rmD d name).2) ∧ Left w c p (rmD d name).1 w' := by
  have hD := h.down
  by_cases hdn : d.dn = true
  · have e : rmD d name = (d, 21) := by unfold rmD; rw [if_pos hdn]
    rw [e]
    refine (remove_refused _ _ (tx name) w hD (by rw [hdn]; unfold refN; simp)).mono fun e w' ⟨he, hk⟩ => ⟨?_, left_same h hk⟩
    rw [he, hdn]; rfl
  have hdn' : d.dn = false := by simpa using hdn
  by_cases hnm : nameOk name = true
  · rw [hdn'] at hD
    have hkA := keep_alloc (fun _ => False) w (.cells #[.string (tx name)] 9)
    obtain ⟨mo, N, c0, hmv, hN, hrow⟩ := h.files hkA
    have RC := hid (ref_call1 _ _ (tx name) w hD)
    rw [refN1 hnm] at RC
    have hnl := nameOk_len hnm
    have hns : (tx name).size ≤ maxLen := by rw [size_mk]; unfold maxLen; omega
    have HA := hid (has_any p mo (vals N) (tx name) _ c0 hmv hns)
    have hkn : (kget (vals N) name).isSome = (kget d.now name).isSome := by rw [← hN, txts_get, vals_get]; cases kget N name <;> rfl
    rw [tx_list, hkn] at HA
    have HKA := hid hkA
    have HL := hid (fun w' (k : Keep (fun _ => False) w w') => left_same h k)
    cases hg : (kget d.now name).isSome with
    | false =>
      have HE : Hid (rmD d name = (d, 4)) := by show _ = _; unfold rmD; rw [if_neg hdn, if_neg (by simp [hnm]), if_pos hg]
      rw [hg] at HA
      rw [HE.out]
      clear h hD hdn hdn' hnm hmv hN hrow hnl hns hkn hkA hM hn hg
      go_enter Tryz.func60, Tryz.ntmps60
      go_wp2_with fail
      refine RC.out.mono ?_
      rintro e w1 ⟨rfl, rfl⟩
      clear RC
      go_wp2_with fail
      refine HA.out.mono ?_
      rintro e w2 ⟨rfl, rfl⟩
      clear HA
      go_wp2
      go_ret
      exact ⟨rfl, HL.out _ HKA.out⟩
    | true =>
      rw [hg] at HA
      have HE : Hid (rmD d name = chgD d ⟨3, name, [], [], 0⟩) := by show _ = _; unfold rmD; rw [if_neg hdn, if_neg (by simp [hnm]), if_neg (by simp [hg])]
      have hok : ChOk d.now ⟨3, name, [], [], 0⟩ := ⟨by simp, by show name.length ≤ _; unfold maxLen; omega, by simp, by simp, by simp⟩
      have CH : Hid (∀ W, Keep (fun _ => False) w W → Calls Tryz.prog 52 #[.pointer (some ⟨p, 0, none⟩), .agg #[.int .i64 3, .string (tx name), .string ⟨#[]⟩, .string ⟨#[]⟩, .int .i64 0]] W fun e w' => e = .returned (.int .i64 (chgD d ⟨3, name, [], [], 0⟩).2) ∧ Left w c p (chgD d ⟨3, name, [], [], 0⟩).1 w') := fun W k => chg_from h hdn' ⟨3, name, [], [], 0⟩ hok k (by simp only [List.length_nil]; omega) hn
      rw [HE.out]
      clear h hD hdn hdn' hnm hmv hN hrow hnl hns hkn hkA hM hn hg HE hok HL
      generalize chgD d ⟨3, name, [], [], 0⟩ = r at *
      go_enter Tryz.func60, Tryz.ntmps60
      go_wp2_with fail
      refine RC.out.mono ?_
      rintro e w1 ⟨rfl, rfl⟩
      clear RC
      go_wp2_with fail
      refine HA.out.mono ?_
      rintro e w2 ⟨rfl, rfl⟩
      clear HA
      go_wp2_with fail
      refine (CH.out _ HKA.out).mono ?_
      rintro e w3 ⟨rfl, hL⟩
      have HL := hid hL
      clear CH hL
      go_wp2
      go_ret
      exact ⟨rfl, HL.out⟩
  · have hnm' : nameOk name = false := by simpa using hnm
    have e : rmD d name = (d, 20) := by unfold rmD; rw [if_neg hdn, if_pos hnm']
    rw [e]
    refine (remove_refused _ _ (tx name) w hD (by rw [hdn']; unfold refN; simp [hnm'])).mono fun e w' ⟨he, hk⟩ => ⟨?_, left_same h hk⟩
    rw [he, hdn']; unfold refN; simp [hnm']

set_option maxRecDepth 100000 in
theorem waits_any (p : Nat) (c : Nat → Nat) (d : Ds) (w : World) (h : DiskIs w c p d) : Calls Tryz.prog 27 #[.pointer (some ⟨p, 0, none⟩)] w fun e w' => e = .returned (.int .i64 d.ws.length) ∧ w' = w := by
  obtain ⟨R, h⟩ := h
  have d4 : w.cell? ⟨p, 4, none⟩ = some R.wv := h.row.cellAt (by simp [Raw.cs, dC])
  obtain ⟨ad, wc, hwc⟩ : ∃ ad cp, R.wv = .slice ad d.ws.length cp := by
    rcases h.wrow.2 with ⟨e, h0⟩ | ⟨g, cap, cur, e, _⟩
    · exact ⟨none, 0, by rw [e, h0]⟩
    · exact ⟨_, _, e⟩
  rw [hwc] at d4
  clear h hwc
  go_enter Tryz.func27, Tryz.ntmps27
  go_wp2
  go_ret
  exact ⟨rfl, rfl⟩
end Go.Proofs.YtedogofeibdjiaaGreat
namespace Go.Proofs.YtedogofeibdjiaaGreat
open Go.RowKit Go.Maps
set_option linter.unusedVariables false
set_option linter.unusedSimpArgs false

/-- the piece number k -/
def chk (n : Nat) (s : Bs) (k : Nat) : Bs := (s.drop (k * n)).take n
/-- the first k pieces -/
def chks (n : Nat) (s : Bs) (k : Nat) : List ByteArray := (List.range k).map fun i => tx (chk n s i)
/-- how many there are -/
def nch (n : Nat) (s : Bs) : Nat := (s.length + n - 1) / n
theorem chks_len (n : Nat) (s : Bs) (k : Nat) : (chks n s k).length = k := by simp [chks]
theorem chks_succ (n : Nat) (s : Bs) (k : Nat) : ss (chks n s (k + 1)) = ss (chks n s k) ++ [.string (tx (chk n s k))] := by
  simp [chks, ss, List.range_succ]
theorem nch_last {n : Nat} {s : Bs} {k : Nat} (hn : 0 < n) (h1 : k * n < s.length) (h2 : s.length ≤ k * n + n) : nch n s = k + 1 := by
  unfold nch
  refine Nat.div_eq_of_lt_le ?_ ?_
  · rw [Nat.succ_mul]; omega
  · rw [Nat.succ_mul, Nat.succ_mul]; omega
theorem nch_nil {n : Nat} {s : Bs} (hn : 0 < n) (h : s.length = 0) : nch n s = 0 := by
  unfold nch
  exact Nat.div_eq_of_lt (by omega)
theorem nch_le {n : Nat} {s : Bs} (hn : 0 < n) : nch n s ≤ s.length := by
  unfold nch
  rcases Nat.eq_zero_or_pos s.length with h | h
  · rw [h, Nat.div_eq_of_lt (by omega)]; omega
  · refine Nat.le_of_lt_succ ((Nat.div_lt_iff_lt_mul hn).2 ?_)
    have := Nat.mul_le_mul_left (s.length + 1) hn
    rw [Nat.succ_mul]
    have h2 := Nat.mul_le_mul_left s.length hn
    omega
theorem elStr : ElT 32 9 1 16 := ⟨Tryz.underlying32, ⟨.string ⟨#[]⟩, by kernel_rfl, rfl⟩, by decide⟩
theorem below_keep {w w' : World} (h : Below w.heap.size w w') : Keep (fun _ => False) w w' := h.keep _
theorem drop_take (s : Bs) (k n : Nat) : (tx (s.drop (k * n))).extract 0 n = tx (chk n s k) := by
  unfold chk
  exact extract_mk (s.drop (k * n)) n
theorem extract_from (s : Bs) (n : Nat) : (tx s).extract n (tx s).size = tx (s.drop n) := by
  apply ByteArray.ext
  simp [ByteArray.data_extract, size_mk]
  exact List.take_of_length_le (by simp)
set_option maxRecDepth 100000 in
set_option maxHeartbeats 2000000 in
/-- extent's pieces -/
theorem pieces_any (s : Bs) (n : Nat) (w : World) (hn : 0 < n) (hn2 : n ≤ 1048576) (hs : s.length ≤ 1073741824) :
    Calls Tryz.prog 71 #[.string (tx s), .int .i64 (n : Int)] w fun e w' => ∃ v, e = .returned v ∧ w'.ownsRow w.heap.size 9 1 v (nch n s) (ss (chks n s (nch n s))) ∧ Keep (fun _ => False) w w' := by
  have CL := hid (fun (t : ByteArray) (h : t.size ≤ 140737488355328) (W : World) => clone_any t W h)
  have H0 : Hid (w.ownsRow w.heap.size 9 1 (.slice none 0 0) 0 (ss (chks n s 0))) := ⟨rfl, .inl ⟨rfl, rfl⟩⟩
  go_enter Tryz.func71, Tryz.ntmps71
  go_wp2
  go_loopw [0, 5] (fun t l wr => ∃ (k : Nat) (ad : Option Addr) (cap : Nat), t = .string (tx (s.drop (k * n))) ∧ l = .slice ad k cap ∧ (k = 0 ∨ k * n < s.length) ∧ Hid (wr.ownsRow w.heap.size 9 1 (.slice ad k cap) k (ss (chks n s k))) ∧ Hid (Keep (fun _ => False) w wr)) (fun t _ _ => match t with | .string b => b.size | _ => 0)
  case atStart => exact ⟨0, none, 0, by simp, rfl, .inl rfl, H0, Keep.refl _ _⟩
  case round =>
    clear H0
    obtain ⟨k, ad, cap, rfl, rfl, hkn, HO, HK⟩ := hrel
    have hL : (s.drop (k * n)).length = s.length - k * n := List.length_drop
    have hTz : (tx (s.drop (k * n))).size = s.length - k * n := by rw [size_mk, hL]
    have HZ := hid hTz
    have hkn2 : k ≤ s.length := by
      rcases hkn with h | h
      · omega
      · have := Nat.le_mul_of_pos_right k hn; omega
    have HC1 : Hid ([Value.string (tx (chk n s k))].length = 1 * 1) := rfl
    have HO1 : Hid (∀ C : ByteArray, ∀ u ∈ [Value.string C], u.oneCell' = true) := fun C u hu => by simp at hu; rw [hu]; rfl
    have HB1 : Hid (k + 1 ≤ 70368744177) := by show _ ≤ _; omega
    have HB2 : Hid ((k + 1) * 16 ≤ 140737488355328) := by show _ ≤ _; omega
    by_cases hlt : n < s.length - k * n
    · obtain ⟨C, hC⟩ : ∃ C, C = tx (chk n s k) := ⟨_, rfl⟩
      have HC : Hid (tx (chk n s k) = C) := hC.symm
      have hx1 : (tx (s.drop (k * n))).extract 0 n = C := by rw [hC]; exact drop_take s k n
      have hdr : s.drop ((k + 1) * n) = (s.drop (k * n)).drop n := by rw [List.drop_drop, Nat.succ_mul]
      obtain ⟨T2, hT2⟩ : ∃ T2, T2 = tx (s.drop ((k + 1) * n)) := ⟨_, rfl⟩
      have HT2 := hid hT2
      have hx2 : (tx (s.drop (k * n))).extract n (tx (s.drop (k * n))).size = T2 := by rw [hT2, hdr]; exact extract_from (s.drop (k * n)) n
      have hcs : C.size ≤ 140737488355328 := by rw [hC, size_mk]; unfold chk; rw [List.length_take]; omega
      have HCS := hid hcs
      have HSM : Hid (T2.size < (tx (s.drop (k * n))).size) := by show _ < _; rw [hT2, size_mk, hTz, List.length_drop, Nat.succ_mul]; omega
      have HKN : Hid ((k + 1) * n < s.length) := by show _ < _; rw [Nat.succ_mul]; omega
      have HOA : Hid (∀ W, Keep (fun _ => False) wr W → (W.alloc (Obj.cells #[.string C] 9)).ownsRow w.heap.size 9 1 (.slice ad k cap) k (ss (chks n s k)) ∧ GSrc (W.alloc (Obj.cells #[.string C] 9)) (.slice (some ⟨W.heap.size, 0, none⟩) 1 1) 1 [.string C] ∧ w.heap.size ≤ (W.alloc (Obj.cells #[.string C] 9)).heap.size) := fun W hW => ⟨(keep_alloc (fun _ => False) _ _).ownsRow (hW.ownsRow HO.out (fun _ _ h => h)) (fun _ _ h => h), gsrc_block (heap_alloc_new _ _), ((HK.out.trans hW).trans (keep_alloc (fun _ => False) _ _)).size⟩
      have FIN : Hid (∀ (W : World) (ad' : Option Addr) (cap' : Nat) (w' : World), Keep (fun _ => False) wr W → w'.ownsRow w.heap.size 9 1 (.slice ad' (k + 1) cap') (k + 1) (ss (chks n s k) ++ [.string C]) → Keep (fun j => (Value.slice ad k cap).ownBlock = some j) (W.alloc (Obj.cells #[.string C] 9)) w' → Hid (w'.ownsRow w.heap.size 9 1 (.slice ad' (k + 1) cap') (k + 1) (ss (chks n s (k + 1)))) ∧ Hid (Keep (fun _ => False) w w')) := fun W ad' cap' w' hW ho hk => ⟨by rw [chks_succ, HC.out]; exact ho, ((HK.out.trans hW).trans (keep_alloc _ _ _)).then hk (fun j hj e => by have := ownsRow_ge HO.out e; omega)⟩
      have hgt : (n : Int) < ((tx (s.drop (k * n))).size : Int) := by rw [hTz]; omega
      have hge : (0 : Int) ≤ (n : Int) := by omega
      have hle : (n : Int) ≤ ((tx (s.drop (k * n))).size : Int) := by omega
      clear hC hT2 hcs hdr hL hTz HC1 HO HK hlt
      generalize tx (s.drop (k * n)) = T at *
      go_wp2_with fail
      refine (CL.out C HCS.out wr).mono ?_
      rintro e w2 ⟨rfl, hb2⟩
      have hk2 := below_keep hb2
      have HO2 := hid (HOA.out w2 hk2).1
      have HG2 := hid (HOA.out w2 hk2).2.1
      have HS2 := hid (HOA.out w2 hk2).2.2
      have HFN := hid (fun ad' cap' w' => FIN.out w2 ad' cap' w' hk2)
      clear hb2 hk2 HOA FIN CL
      go_wp2_with (at_builtin; refine wpl_gapp rfl _ _ elStr rfl w.heap.size (.slice ad k cap) (.slice (some ⟨w2.heap.size, 0, none⟩) 1 1) (ss (chks n s k)) [.string C] k 1 (k + 1) rfl rfl rfl HO2.out HS2.out HG2.out rfl (HO1.out C) HB1.out HB2.out ?_; intro ad' cap' w' ho' hk')
      obtain ⟨f1, f2⟩ := HFN.out ad' cap' w' ho' hk'
      exact ⟨⟨k + 1, ad', cap', by rw [HT2.out], rfl, .inr HKN.out, f1, f2⟩, HSM.out⟩
    · have hng : decide ((n : Int) < ((tx (s.drop (k * n))).size : Int)) = false := decide_eq_false (by rw [hTz]; omega)
      have hng2 : decide (n < (tx (s.drop (k * n))).size) = false := decide_eq_false (by rw [hTz]; omega)
      by_cases h0 : s.length ≤ k * n
      · have hs0 : s.length = 0 := by rcases hkn with h | h <;> (first | (subst h; simpa using h0) | omega)
        have hk9 : k = 0 := by rcases hkn with h | h <;> omega
        have hT0 : tx (s.drop (k * n)) = ⟨#[]⟩ := by
          have : s.drop (k * n) = [] := List.drop_eq_nil_of_le h0
          rw [this]
        have HE : Hid (wr.ownsRow w.heap.size 9 1 (.slice ad k cap) (nch n s) (ss (chks n s (nch n s)))) := by rw [nch_nil hn hs0]; rw [hk9] at HO; rw [hk9]; exact HO.out
        clear CL HZ hTz hL HC1 HO1 HB1 HB2 HO hs0 hk9 h0 hkn2 hlt hkn
        rw [hT0] at hng hng2 ⊢
        clear hT0
        go_wp2
        go_ret
        exact ⟨_, rfl, HE.out, HK.out⟩
      · obtain ⟨C, hC⟩ : ∃ C, C = tx (chk n s k) := ⟨_, rfl⟩
        have HC : Hid (tx (chk n s k) = C) := hC.symm
        have hCT : tx (s.drop (k * n)) = C := by rw [hC]; unfold chk; rw [List.take_of_length_le (by omega)]
        have hcs : C.size ≤ 140737488355328 := by rw [← hCT, hTz]; omega
        have hcz : 0 < C.size := by rw [← hCT, hTz]; omega
        have HNC := hid (nch_last hn (by omega) (by omega) : nch n s = k + 1)
        have hb0 : (C.toList == []) = false := by
          rw [ByteArray.toList_eq]
          have : C.data.toList.length ≠ 0 := by simpa using (show C.size ≠ 0 by omega)
          cases hc : C.data.toList with
          | nil => rw [hc] at this; simp at this
          | cons x r => rfl
        have hb1 : (C.toList != []) = true := by rw [bne, hb0]; rfl
        have HCS := hid hcs
        have HOA : Hid (∀ W, Keep (fun _ => False) wr W → (W.alloc (Obj.cells #[.string C] 9)).ownsRow w.heap.size 9 1 (.slice ad k cap) k (ss (chks n s k)) ∧ GSrc (W.alloc (Obj.cells #[.string C] 9)) (.slice (some ⟨W.heap.size, 0, none⟩) 1 1) 1 [.string C] ∧ w.heap.size ≤ (W.alloc (Obj.cells #[.string C] 9)).heap.size) := fun W hW => ⟨(keep_alloc (fun _ => False) _ _).ownsRow (hW.ownsRow HO.out (fun _ _ h => h)) (fun _ _ h => h), gsrc_block (heap_alloc_new _ _), ((HK.out.trans hW).trans (keep_alloc (fun _ => False) _ _)).size⟩
        have FIN : Hid (∀ (W : World) (ad' : Option Addr) (cap' : Nat) (w' : World), Keep (fun _ => False) wr W → w'.ownsRow w.heap.size 9 1 (.slice ad' (k + 1) cap') (k + 1) (ss (chks n s k) ++ [.string C]) → Keep (fun j => (Value.slice ad k cap).ownBlock = some j) (W.alloc (Obj.cells #[.string C] 9)) w' → w'.ownsRow w.heap.size 9 1 (.slice ad' (k + 1) cap') (nch n s) (ss (chks n s (nch n s))) ∧ Keep (fun _ => False) w w') := fun W ad' cap' w' hW ho hk => ⟨by rw [HNC.out, chks_succ, HC.out]; exact ho, ((HK.out.trans hW).trans (keep_alloc _ _ _)).then hk (fun j hj e => by have := ownsRow_ge HO.out e; omega)⟩
        clear hC hcs hcz hTz hL HZ HC1 HO HK hkn2 hlt hkn h0
        rw [hCT] at hng hng2 ⊢
        clear hCT
        go_wp2_with fail
        refine (CL.out C HCS.out wr).mono ?_
        rintro e w2 ⟨rfl, hb2⟩
        have hk2 := below_keep hb2
        have HO2 := hid (HOA.out w2 hk2).1
        have HG2 := hid (HOA.out w2 hk2).2.1
        have HS2 := hid (HOA.out w2 hk2).2.2
        have HFN := hid (fun ad' cap' w' => FIN.out w2 ad' cap' w' hk2)
        clear hb2 hk2 HOA FIN CL
        go_wp2_with (at_builtin; refine wpl_gapp rfl _ _ elStr rfl w.heap.size (.slice ad k cap) (.slice (some ⟨w2.heap.size, 0, none⟩) 1 1) (ss (chks n s k)) [.string C] k 1 (k + 1) rfl rfl rfl HO2.out HS2.out HG2.out rfl (HO1.out C) HB1.out HB2.out ?_; intro ad' cap' w' ho' hk')
        have HF := hid (HFN.out ad' cap' w' ho' hk')
        go_ret
        exact ⟨_, rfl, HF.out⟩
end Go.Proofs.YtedogofeibdjiaaGreat
namespace Go.Proofs.YtedogofeibdjiaaGreat
open Go.RowKit Go.Maps
set_option linter.unusedVariables false
set_option linter.unusedSimpArgs false

theorem nch_exit {n : Nat} {s : Bs} {k : Nat} (hn : 0 < n) (h1 : k = 0 ∨ (k - 1) * n < s.length) (h2 : s.length ≤ k * n) : nch n s = k := by
  cases k with
  | zero => exact nch_nil hn (by simpa using h2)
  | succ k =>
    have h3 : k * n < s.length := by simpa using h1
    rw [Nat.succ_mul] at h2
    exact nch_last hn h3 h2
theorem extract_mid (s : Bs) (i m : Nat) : (tx s).extract i m = tx ((s.drop i).take (m - i)) := by
  apply ByteArray.ext
  simp [ByteArray.data_extract]
set_option maxRecDepth 100000 in
set_option maxHeartbeats 2000000 in
theorem rcut_any (s : Bs) (n : Nat) (w : World) (hn : 0 < n) (hn2 : n ≤ 1048576) (hs : s.length ≤ 1073741824) :
    Calls Tryz.prog 68 #[.string (tx s), .int .i64 (n : Int)] w fun e w' => ∃ v, e = .returned v ∧ w'.ownsRow w.heap.size 9 1 v (nch n s) (ss (chks n s (nch n s))) ∧ Keep (fun _ => False) w w' := by
  have H0 : Hid (w.ownsRow w.heap.size 9 1 (.slice none 0 0) 0 (ss (chks n s 0))) := ⟨rfl, .inl ⟨rfl, rfl⟩⟩
  have hsz : (tx s).size = s.length := size_mk s
  have HEX : Hid (∀ i m, (tx s).extract i m = tx ((s.drop i).take (m - i))) := extract_mid s
  obtain ⟨T, hT⟩ : ∃ T, T = tx s := ⟨_, rfl⟩
  rw [← hT] at hsz HEX ⊢
  clear hT
  have hTs : (T.size : Int) ≤ 1073741824 := by omega
  have HTS := hid hsz
  clear hsz
  go_enter Tryz.func68, Tryz.ntmps68
  go_wp2
  go_loopw [5, 6] (fun l x wr => ∃ (k i : Nat) (ad : Option Addr) (cap : Nat), x = .int .i64 (i : Int) ∧ l = .slice ad k cap ∧ Hid (i = k * n) ∧ i ≤ T.size + n ∧ k ≤ i ∧ Hid (k = 0 ∨ (k - 1) * n < s.length) ∧ Hid (wr.ownsRow w.heap.size 9 1 (.slice ad k cap) k (ss (chks n s k))) ∧ Hid (Keep (fun _ => False) w wr)) (fun _ x _ => T.size + n - (intOf x).toNat)
  case atStart => exact ⟨0, 0, none, 0, rfl, rfl, (Nat.zero_mul n).symm, by omega, Nat.le_refl _, .inl rfl, H0, Keep.refl _ _⟩
  case round =>
    clear H0
    obtain ⟨k, i, ad, cap, rfl, rfl, HI, hi, hki, HKN, HO, HK⟩ := hrel
    by_cases hlt : i < T.size
    · have hlt2 : (i : Int) < (T.size : Int) := by omega
      have hi0 : (0 : Int) ≤ (i : Int) := by omega
      obtain ⟨m, hm⟩ : ∃ m : Nat, m = min (i + n) T.size := ⟨_, rfl⟩
      have hm1 : min ((i : Int) + (n : Int)) (T.size : Int) = (m : Int) := by omega
      have hm2 : (if (T.size : Int) < (i : Int) + (n : Int) then (T.size : Int) else (i : Int) + (n : Int)) = (m : Int) := by split <;> omega
      have him : (i : Int) ≤ (m : Int) := by omega
      have hmT : (m : Int) ≤ (T.size : Int) := by omega
      obtain ⟨C, hC⟩ : ∃ C, C = tx (chk n s k) := ⟨_, rfl⟩
      have HC : Hid (tx (chk n s k) = C) := hC.symm
      have hx1 : T.extract i m = C := by
        have e9 : (s.drop i).take (m - i) = chk n s k := by
          unfold chk
          rw [← HI.out]
          have h9 := HTS.out
          by_cases hh : i + n ≤ T.size
          · rw [show m - i = n by omega]
          · rw [List.take_of_length_le (by rw [List.length_drop]; omega), List.take_of_length_le (by rw [List.length_drop]; omega)]
        rw [HEX.out, hC, e9]
      have HIN : Hid (i + n = (k + 1) * n) := by show _ = _; rw [Nat.succ_mul, ← HI.out]
      have HKN2 : Hid (k + 1 = 0 ∨ (k + 1 - 1) * n < s.length) := .inr (by rw [Nat.add_sub_cancel, ← HI.out, ← HTS.out]; exact hlt)
      have HO1 : Hid (∀ u ∈ [Value.string C], u.oneCell' = true) := fun u hu => by simp at hu; rw [hu]; rfl
      have HB1 : Hid (k + 1 ≤ 70368744177) := by show _ ≤ _; omega
      have HB2 : Hid ((k + 1) * 16 ≤ 140737488355328) := by show _ ≤ _; omega
      have HO2 : Hid ((wr.alloc (Obj.cells #[.string C] 9)).ownsRow w.heap.size 9 1 (.slice ad k cap) k (ss (chks n s k))) := (keep_alloc (fun _ => False) _ _).ownsRow HO.out (fun _ _ h => h)
      have HG2 : Hid (GSrc (wr.alloc (Obj.cells #[.string C] 9)) (.slice (some ⟨wr.heap.size, 0, none⟩) 1 1) 1 [.string C]) := gsrc_block (heap_alloc_new _ _)
      have HS2 : Hid (w.heap.size ≤ (wr.alloc (Obj.cells #[.string C] 9)).heap.size) := (HK.out.trans (keep_alloc (fun _ => False) _ _)).size
      have FIN : Hid (∀ (ad' : Option Addr) (cap' : Nat) (w' : World), w'.ownsRow w.heap.size 9 1 (.slice ad' (k + 1) cap') (k + 1) (ss (chks n s k) ++ [.string C]) → Keep (fun j => (Value.slice ad k cap).ownBlock = some j) (wr.alloc (Obj.cells #[.string C] 9)) w' → Hid (w'.ownsRow w.heap.size 9 1 (.slice ad' (k + 1) cap') (k + 1) (ss (chks n s (k + 1)))) ∧ Hid (Keep (fun _ => False) w w')) := fun ad' cap' w' ho hk => ⟨by rw [chks_succ, HC.out]; exact ho, (HK.out.trans (keep_alloc _ _ _)).then hk (fun j hj e => by have := ownsRow_ge HO.out e; omega)⟩
      clear hC hm HEX HO HK HI HKN
      go_wp2_with (at_builtin; refine wpl_gapp rfl _ _ elStr rfl w.heap.size (.slice ad k cap) (.slice (some ⟨wr.heap.size, 0, none⟩) 1 1) (ss (chks n s k)) [.string C] k 1 (k + 1) rfl rfl rfl HO2.out HS2.out HG2.out rfl HO1.out HB1.out HB2.out ?_; intro ad' cap' w' ho' hk')
      obtain ⟨f1, f2⟩ := FIN.out ad' cap' w' ho' hk'
      exact ⟨⟨k + 1, i + n, ad', cap', by go_num, rfl, HIN, by omega, by omega, HKN2, f1, f2⟩, by simp [intOf]; omega⟩
    · have hd : decide ((i : Int) < (T.size : Int)) = false := decide_eq_false (by omega)
      have hd2 : decide (i < T.size) = false := decide_eq_false hlt
      have HE : Hid (wr.ownsRow w.heap.size 9 1 (.slice ad k cap) (nch n s) (ss (chks n s (nch n s)))) := by
        rw [nch_exit hn HKN.out (by rw [← HI.out, ← HTS.out]; omega)]; exact HO.out
      clear HEX HO HI HKN
      go_wp2
      go_ret
      exact ⟨_, rfl, HE.out, HK.out⟩
end Go.Proofs.YtedogofeibdjiaaGreat
namespace Go.Proofs.YtedogofeibdjiaaGreat
open Go.RowKit Go.Maps
set_option linter.unusedVariables false
set_option linter.unusedSimpArgs false

theorem stepL {w1 wi : World} {c : Nat → Nat} {p : Nat} {s s' : Ds} {f : FuncId} {args : Array Value} {r : Value} (h : Left w1 c p s wi) (C : ∀ W c, DiskIs W c p s → Calls Tryz.prog f args W fun e w' => e = .returned r ∧ Left W c p s' w') : Calls Tryz.prog f args wi fun e w' => e = .returned r ∧ Left w1 c p s' w' := by
  obtain ⟨⟨ci, D, hc⟩, K⟩ := h
  exact (C wi ci D).mono fun e w' ⟨he, hL⟩ => ⟨he, hL.trans hc K⟩
theorem Left.keepR {w1 wr W : World} {c : Nat → Nat} {p : Nat} {d : Ds} (h : Left w1 c p d wr) (k : Keep (fun _ => False) wr W) : Left w1 c p d W := by
  obtain ⟨⟨c', hD, hc'⟩, hK⟩ := h
  exact Left.trans hc' hK (left_same hD k)
def synR (d : Ds) : Ds × Int := if d.dn then (d, 21) else (synD d, 0)
set_option maxRecDepth 100000 in
theorem sync_dead2 (dp : Value) (w : World) (h : DownIs w dp true) : Calls Tryz.prog 20 #[dp] w fun e w' => e = .returned (.int .i64 21) ∧ w' = w := by
  have HD := hid (down_any dp true w h)
  clear h
  go_enter Tryz.func20, Tryz.ntmps20
  go_wp2_with fail
  refine HD.out.mono ?_
  rintro e w1 ⟨rfl, rfl⟩
  clear HD
  go_wp2
  go_ret
  exact ⟨rfl, rfl⟩
theorem sync_all (p : Nat) (c : Nat → Nat) (d : Ds) (w : World) (h : DiskIs w c p d) (hM : d.wt + d.S.length + d.ws.length ≤ 70368744177) :
    Calls Tryz.prog 20 #[.pointer (some ⟨p, 0, none⟩)] w fun e w' => e = .returned (.int .i64 (synR d).2) ∧ Left w c p (synR d).1 w' := by
  unfold synR
  cases hd : d.dn with
  | true =>
    have hD := h.down
    rw [hd] at hD
    refine (sync_dead2 _ w hD).mono fun e w' ⟨he, hw⟩ => ⟨he, ?_⟩
    subst hw
    exact left_same h (Keep.refl _ _)
  | false => exact sync_any p c d w h hd hM
/-- what clearing a spare file makes of a disk, and what is told -/
def clrD (d : Ds) (spare : Bs) : Ds × Int := ((rmD d spare).1, if (rmD d spare).2 = 4 then 0 else (rmD d spare).2)
set_option maxRecDepth 100000 in
theorem clear_any (p : Nat) (c : Nat → Nat) (d : Ds) (spare : Bs) (w : World) (h : DiskIs w c p d) (hM : d.wt + d.S.length + d.ws.length + spare.length ≤ 70368744177) (hn : d.n ≤ 1152921504606846976) :
    Calls Tryz.prog 31 #[.pointer (some ⟨p, 0, none⟩), .string (tx spare)] w fun e w' => e = .returned (.int .i64 (clrD d spare).2) ∧ Left w c p (clrD d spare).1 w' := by
  have RM := hid (remove_any p c d spare w h hM hn)
  have HE : Hid ((clrD d spare).2 = if (rmD d spare).2 = 4 then 0 else (rmD d spare).2) := rfl
  have HE1 : Hid ((clrD d spare).1 = (rmD d spare).1) := rfl
  generalize clrD d spare = q at *
  generalize rmD d spare = r at *
  generalize tx spare = T at *
  obtain ⟨d2, er⟩ := r
  simp only at RM HE HE1
  clear h
  go_enter Tryz.func31, Tryz.ntmps31
  go_wp2_with fail
  refine RM.out.mono ?_
  rintro e w1 ⟨rfl, hL⟩
  have HL := hid hL
  clear RM hL
  by_cases h4 : er = 4
  · subst h4
    go_wp2
    go_ret
    exact ⟨ret_int (by rw [HE.out]; rfl), by rw [HE1.out]; exact HL.out⟩
  · have hne : (er != 4) = true := by rw [bne_iff_ne]; exact h4
    have HE2 : Hid (q.2 = er) := by have h9 := HE.out; rw [if_neg h4] at h9; exact h9
    clear h4 HE
    go_wp2
    go_ret
    exact ⟨ret_int (by rw [HE2.out]), by rw [HE1.out]; exact HL.out⟩
/-- what laying a file whole makes of a disk, and what is told -/
def layD (d : Ds) (spare name s : Bs) : Ds × Int :=
  if (wrD d spare s).2 ≠ 0 then wrD d spare s
  else if (synR (wrD d spare s).1).2 ≠ 0 then synR (wrD d spare s).1
  else if (mvD (synR (wrD d spare s).1).1 spare name).2 ≠ 0 then mvD (synR (wrD d spare s).1).1 spare name
  else synR (mvD (synR (wrD d spare s).1).1 spare name).1
set_option maxRecDepth 100000 in
set_option maxHeartbeats 1000000 in
theorem lay_any (p : Nat) (c : Nat → Nat) (d : Ds) (spare name s : Bs) (w : World) (h : DiskIs w c p d)
    (hM : d.wt + d.S.length + d.ws.length + s.length + spare.length ≤ 70368744177) (hn : d.n ≤ 1152921504606846976)
    (hM1 : (wrD d spare s).1.wt + (wrD d spare s).1.S.length + (wrD d spare s).1.ws.length ≤ 70368744177)
    (hM2 : (synR (wrD d spare s).1).1.wt + (synR (wrD d spare s).1).1.S.length + (synR (wrD d spare s).1).1.ws.length + spare.length + name.length ≤ 70368744177) (hn2 : (synR (wrD d spare s).1).1.n ≤ 1152921504606846976)
    (hM3 : (mvD (synR (wrD d spare s).1).1 spare name).1.wt + (mvD (synR (wrD d spare s).1).1 spare name).1.S.length + (mvD (synR (wrD d spare s).1).1 spare name).1.ws.length ≤ 70368744177) :
    Calls Tryz.prog 41 #[.pointer (some ⟨p, 0, none⟩), .string (tx spare), .string (tx name), .string (tx s)] w fun e w' => e = .returned (.int .i64 (layD d spare name s).2) ∧ Left w c p (layD d spare name s).1 w' := by
  have C1 := hid (write_any p c d spare s w h hM hn)
  have C2 : Hid (∀ W c, DiskIs W c p (wrD d spare s).1 → Calls Tryz.prog 20 #[.pointer (some ⟨p, 0, none⟩)] W fun e w' => e = .returned (.int .i64 (synR (wrD d spare s).1).2) ∧ Left W c p (synR (wrD d spare s).1).1 w') := fun W c D => sync_all p c _ W D hM1
  have C3 : Hid (∀ W c, DiskIs W c p (synR (wrD d spare s).1).1 → Calls Tryz.prog 70 #[.pointer (some ⟨p, 0, none⟩), .string (tx spare), .string (tx name)] W fun e w' => e = .returned (.int .i64 (mvD (synR (wrD d spare s).1).1 spare name).2) ∧ Left W c p (mvD (synR (wrD d spare s).1).1 spare name).1 w') := fun W c D => move_any p c _ spare name W D hM2 hn2
  have C4 : Hid (∀ W c, DiskIs W c p (mvD (synR (wrD d spare s).1).1 spare name).1 → Calls Tryz.prog 20 #[.pointer (some ⟨p, 0, none⟩)] W fun e w' => e = .returned (.int .i64 (synR (mvD (synR (wrD d spare s).1).1 spare name).1).2) ∧ Left W c p (synR (mvD (synR (wrD d spare s).1).1 spare name).1).1 w') := fun W c D => sync_all p c _ W D hM3
  have HE : Hid (layD d spare name s = if (wrD d spare s).2 ≠ 0 then wrD d spare s
  else if (synR (wrD d spare s).1).2 ≠ 0 then synR (wrD d spare s).1
  else if (mvD (synR (wrD d spare s).1).1 spare name).2 ≠ 0 then mvD (synR (wrD d spare s).1).1 spare name
  else synR (mvD (synR (wrD d spare s).1).1 spare name).1) := rfl
  generalize layD d spare name s = q at *
  generalize synR (mvD (synR (wrD d spare s).1).1 spare name).1 = r4 at *
  generalize mvD (synR (wrD d spare s).1).1 spare name = r3 at *
  generalize synR (wrD d spare s).1 = r2 at *
  generalize wrD d spare s = r1 at *
  generalize tx spare = T1 at *
  generalize tx name = T2 at *
  generalize tx s = T3 at *
  obtain ⟨d1, k1⟩ := r1
  obtain ⟨d2, k2⟩ := r2
  obtain ⟨d3, k3⟩ := r3
  obtain ⟨d4, k4⟩ := r4
  simp only at C1 C2 C3 C4 HE
  clear h hM hM1 hM2 hM3 hn hn2
  go_enter Tryz.func41, Tryz.ntmps41
  go_wp2_with fail
  refine C1.out.mono ?_
  rintro e w1 ⟨rfl, hL⟩
  have HL1 := hid hL
  clear C1 hL
  by_cases h1 : k1 = 0
  · subst h1
    go_wp2_with fail
    refine (stepL HL1.out C2.out).mono ?_
    rintro e w2 ⟨rfl, hL⟩
    have HL2 := hid hL
    clear C2 hL HL1
    by_cases h2 : k2 = 0
    · subst h2
      go_wp2_with fail
      refine (stepL HL2.out C3.out).mono ?_
      rintro e w3 ⟨rfl, hL⟩
      have HL3 := hid hL
      clear C3 hL HL2
      by_cases h3 : k3 = 0
      · subst h3
        have HQ : Hid (q = (d4, k4)) := by have h9 := HE.out; refine hid ?_; simpa using h9
        clear HE
        go_wp2_with fail
        refine (stepL HL3.out C4.out).mono ?_
        rintro e w4 ⟨rfl, hL⟩
        have HL4 := hid hL
        clear C4 hL HL3
        go_wp2
        go_ret
        exact ⟨ret_int (by rw [HQ.out]), by rw [HQ.out]; exact HL4.out⟩
      · have hne : (k3 != 0) = true := by rw [bne_iff_ne]; exact h3
        have HQ : Hid (q = (d3, k3)) := by have h9 := HE.out; refine hid ?_; simpa [h3] using h9
        clear HE C4 h3
        go_wp2
        go_ret
        exact ⟨ret_int (by rw [HQ.out]), by rw [HQ.out]; exact HL3.out⟩
    · have hne : (k2 != 0) = true := by rw [bne_iff_ne]; exact h2
      have HQ : Hid (q = (d2, k2)) := by have h9 := HE.out; refine hid ?_; simpa [h2] using h9
      clear HE C3 C4 h2
      go_wp2
      go_ret
      exact ⟨ret_int (by rw [HQ.out]), by rw [HQ.out]; exact HL2.out⟩
  · have hne : (k1 != 0) = true := by rw [bne_iff_ne]; exact h1
    have HQ : Hid (q = (d1, k1)) := by have h9 := HE.out; refine hid ?_; simpa [h1] using h9
    clear HE C2 C3 C4 h1
    go_wp2
    go_ret
    exact ⟨ret_int (by rw [HQ.out]), by rw [HQ.out]; exact HL1.out⟩
/-- a disk on which a file can be laid whole within our bounds -/
structure LyOk (d : Ds) (spare name s : Bs) : Prop where
  m0 : d.wt + d.S.length + d.ws.length + s.length + spare.length ≤ 70368744177
  n0 : d.n ≤ 1152921504606846976
  m1 : (wrD d spare s).1.wt + (wrD d spare s).1.S.length + (wrD d spare s).1.ws.length ≤ 70368744177
  m2 : (synR (wrD d spare s).1).1.wt + (synR (wrD d spare s).1).1.S.length + (synR (wrD d spare s).1).1.ws.length + spare.length + name.length ≤ 70368744177
  n2 : (synR (wrD d spare s).1).1.n ≤ 1152921504606846976
  m3 : (mvD (synR (wrD d spare s).1).1 spare name).1.wt + (mvD (synR (wrD d spare s).1).1 spare name).1.S.length + (mvD (synR (wrD d spare s).1).1 spare name).1.ws.length ≤ 70368744177
end Go.Proofs.YtedogofeibdjiaaGreat
namespace Go.Proofs.YtedogofeibdjiaaGreat
open Go.RowKit Go.Maps
set_option linter.unusedVariables false
set_option linter.unusedSimpArgs false

/-- what maps.Keys does -/
def KeysC : Prop := ∀ (mb : Option Nat) (W : World), Calls Tryz.prog 82 #[.map mb] W fun e w' => e = .returned (.func (.func 104) #[] #[.pointer (some ⟨W.heap.size, 0, none⟩)]) ∧ w' = W.alloc (.cells #[.map mb] 63)
/-- the names, as cells -/
def nmC {α : Type} (L : List (Bs × α)) : List Value := L.map fun p => .string (tx p.1)
/-- what slices.Sorted does with that -/
def SortedC : Prop := ∀ (mo : Option Nat) (L : List (Bs × Value)) (w : World), MapV w mo L → Srt L → L.length ≤ 70368744177 →
  Calls Tryz.prog 81 #[.func (.func 104) #[] #[.pointer (some ⟨w.heap.size, 0, none⟩)]] (w.alloc (.cells #[.map mo] 63)) fun e w' => ∃ v, e = .returned v ∧ w'.ownsRow (w.heap.size + 1) 9 1 v L.length (nmC L) ∧ Keep (fun _ => False) (w.alloc (.cells #[.map mo] 63)) w'

theorem owns_same {w : World} {B n g cap k : Nat} {xs : List Value} {u : Value} (h : w.ownsRow B 9 1 (.slice (some ⟨g, 0, none⟩) n cap) n xs) (hk : xs[k]? = some u) : (w.setCell ⟨g, k, none⟩ u).ownsRow B 9 1 (.slice (some ⟨g, 0, none⟩) n cap) n xs := by
  obtain ⟨h1, h2⟩ := h
  rcases h2 with ⟨e, _⟩ | ⟨g', cap', cur, e, hg, hb, hn, hm, hs, ht⟩
  · injection e with e; cases e
  · injection e with e1 e2 e3
    injection e1 with e1
    injection e1 with e1
    subst e1
    have hcur : cur[k]? = some u := by
      have hk' : k < xs.length := (List.getElem?_eq_some_iff.1 hk).1
      rw [← ht, List.getElem?_take_of_lt (by omega)] at hk
      simpa using hk
    have hsame : cur.setIfInBounds k u = cur := by
      apply Array.ext_getElem?
      intro i
      rw [Array.getElem?_setIfInBounds]
      by_cases hi : k = i
      · subst hi
        rw [if_pos rfl, hcur]
        rw [if_pos (Array.getElem?_eq_some_iff.1 hcur).1]
      · rw [if_neg hi]
    refine ⟨h1, .inr ⟨g, cap', cur, by rw [e3], hg, ?_, hn, hm, hs, ht⟩⟩
    rw [heap_setCell_same _ _ _ _ _ _ hb, hsame]
theorem owns_cell {w : World} {B n g cap k : Nat} {xs : List Value} {u : Value} (h : w.ownsRow B 9 1 (.slice (some ⟨g, 0, none⟩) n cap) n xs) (hk : xs[k]? = some u) : w.cell? ⟨g, k, none⟩ = some u ∧ w.frozen? ⟨g, k, none⟩ = false := by
  obtain ⟨h1, h2⟩ := h
  rcases h2 with ⟨e, _⟩ | ⟨g', cap', cur, e, hg, hb, hn, hm, hs, ht⟩
  · injection e with e; cases e
  · injection e with e1 e2 e3
    injection e1 with e1
    injection e1 with e1
    subst e1
    refine ⟨?_, by unfold World.frozen?; rw [hb]; simp⟩
    rw [cell_of_row _ _ _ _ _ _ hb]
    have hk' : k < xs.length := (List.getElem?_eq_some_iff.1 hk).1
    rw [← ht, List.getElem?_take_of_lt (by omega)] at hk
    simpa using hk

set_option maxRecDepth 100000 in
set_option maxHeartbeats 2000000 in
theorem names_any (KC : KeysC) (SC : SortedC) (p : Nat) (c : Nat → Nat) (d : Ds) (w : World) (h : DiskIs w c p d) (hdn : d.dn = false) (hl : d.now.length ≤ 70368744177) (hnm : ∀ x ∈ d.now, x.1.length ≤ 80) :
    Calls Tryz.prog 57 #[.pointer (some ⟨p, 0, none⟩)] w fun e w' => ∃ v, e = .returned v ∧ w'.ownsRow w.heap.size 9 1 v d.now.length (nmC d.now) ∧ Keep (fun _ => False) w w' := by
  have hD := h.down
  rw [hdn] at hD
  have HD := hid (down_any _ false w hD)
  obtain ⟨mo, N, c0, hmv, hN, hrow⟩ := h.files (Keep.refl _ w)
  have hsrt : Srt (vals N) := by
    obtain ⟨R, hR⟩ := h
    have hS : Srt d.S := by rw [← hR.eS]; exact srt_txts.2 hR.sure.srt
    have hmv2 : ∀ x ∈ d.ws, x.kind = 2 → x.to ≠ x.name := fun x hm => by obtain ⟨i, hi, rfl⟩ := List.getElem_of_mem hm; exact (hR.oks i hi).move
    have hb := (replay_bounds d.ws d.S hS hmv2).1
    have hb2 : Srt (txts N) := by rw [hN]; exact hb
    exact (srt_map (fun x : FV => x.1)).2 (srt_txts.1 hb2)
  have hlen : (vals N).length = d.now.length := by rw [← hN]; simp [vals, txts]
  have hnc : nmC (vals N) = nmC d.now := by rw [← hN]; simp [nmC, vals, txts]
  have KY := hid (KC mo w)
  have ST := hid (SC mo (vals N) w hmv hsrt (by omega))
  rw [hlen, hnc] at ST
  have HCL : Hid (∀ k, k < d.now.length → ∃ u, (nmC d.now)[k]? = some (.string u) ∧ u.size ≤ 140737488355328) := fun k hk => ⟨tx (d.now[k]).1, by simp [nmC, hk], by rw [size_mk]; have := hnm _ (List.getElem_mem hk); omega⟩
  generalize hn : d.now.length = n at *
  generalize nmC d.now = xs at *
  clear h hD hdn hmv hN hrow hsrt hlen hnc hnm hn
  go_enter Tryz.func57, Tryz.ntmps57
  go_wp2_with fail
  refine HD.out.mono ?_
  rintro e w1 ⟨rfl, rfl⟩
  clear HD
  go_wp2_with fail
  refine KY.out.mono ?_
  rintro e w2 ⟨rfl, rfl⟩
  clear KY
  go_wp2_with fail
  refine ST.out.mono ?_
  rintro e w3 ⟨v, rfl, hr3, hk3⟩
  have hK3 : Keep (fun _ => False) w1 w3 := (keep_alloc _ _ _).trans hk3
  have hr3' : w3.ownsRow w1.heap.size 9 1 v n xs := by
    refine ⟨hr3.1, hr3.2.imp id ?_⟩
    rintro ⟨g, cap, cur, e, hg, r⟩
    exact ⟨g, cap, cur, e, by omega, r⟩
  clear ST hr3 hk3 c0
  rcases hr3'.2 with ⟨e, h0⟩ | ⟨g, cap, cur, e, hg, _⟩
  · subst e h0
    have HR := hid hr3'
    have HK := hid hK3
    clear hr3' hK3 HCL
    go_wp2
    go_loopw [17] (fun i wr => i = .int .i64 0 ∧ wr = w3) (fun _ _ => 0)
    case atStart => exact ⟨rfl, rfl⟩
    case round =>
      obtain ⟨rfl, rfl⟩ := hrel
      go_wp2
      go_ret
      exact ⟨_, rfl, HR.out, HK.out⟩
  · subst e
    have HR := hid hr3'
    have HK := hid hK3
    have HGB := hid hg
    clear hr3' hK3 hg
    go_wp2
    go_loopw [17] (fun i wr => ∃ k : Nat, k ≤ n ∧ i = .int .i64 k ∧ Hid (wr.ownsRow w1.heap.size 9 1 (.slice (some ⟨g, 0, none⟩) n cap) n xs) ∧ Hid (Keep (fun _ => False) w1 wr)) (fun i _ => n - (intOf i).toNat)
    case atStart => exact ⟨0, by omega, rfl, HR, HK⟩
    case round =>
      clear HR HK
      obtain ⟨k, hk, rfl, HR, HK⟩ := hrel
      by_cases hlt : k < n
      · have hk0 : (0 : Int) ≤ (k : Int) := by omega
        have hk1 : (k : Int) < (n : Int) := by omega
        obtain ⟨u, hu, hus⟩ := HCL.out k hlt
        have hc := (owns_cell HR.out hu).1
        have CL := hid (clone_any u wr hus)
        have AFT : Hid (∀ w5, Below wr.heap.size wr w5 → w5.cell? ⟨g, k, none⟩ = some (.string u) ∧ w5.frozen? ⟨g, k, none⟩ = false ∧ (w5.setCell ⟨g, k, none⟩ (.string u)).ownsRow w1.heap.size 9 1 (.slice (some ⟨g, 0, none⟩) n cap) n xs ∧ Keep (fun _ => False) w1 (w5.setCell ⟨g, k, none⟩ (.string u))) := by
          intro w5 hb
          have hr5 := (hb.keep (fun _ => False)).ownsRow HR.out (fun _ _ h => h)
          obtain ⟨e1, e2⟩ := owns_cell hr5 hu
          exact ⟨e1, e2, owns_same hr5 hu, (HK.out.trans (hb.keep _)).then (keep_setCell _ _ _ _) (fun j hj e => by have := HGB.out; omega)⟩
        clear HR HK HCL hu hus
        go_wp2_with fail
        refine CL.out.mono ?_
        rintro e w5 ⟨rfl, hb⟩
        obtain ⟨e1, e2, hr6, hk6⟩ := AFT.out w5 hb
        have HR := hid hr6
        have HK := hid hk6
        clear CL AFT hr6 hk6 hb
        go_wp2
        exact ⟨⟨k + 1, by omega, by go_num, HR, HK⟩, by simp [intOf]; omega⟩
      · have hd : decide ((k : Int) < (n : Int)) = false := decide_eq_false (by omega)
        clear HCL
        go_wp2
        go_ret
        exact ⟨_, rfl, HR.out, HK.out⟩
end Go.Proofs.YtedogofeibdjiaaGreat
namespace Go.Proofs.YtedogofeibdjiaaGreat
open Go.RowKit Go.Maps
set_option linter.unusedVariables false
set_option linter.unusedSimpArgs false

/-- a fall's cells -/
def flC (x : Fl) : List Value := [.int .i64 x.at_, .int .i64 x.keep, .int .i64 x.torn]
def fls (l : List Fl) : List Value := l.flatMap flC
theorem fls_get : ∀ (l : List Fl) (i : Nat) (h : i < l.length) (j : Nat), j < 3 → (fls l)[3 * i + j]? = (flC l[i])[j]?
  | x :: r, 0, _, j, hj => by
    show (flC x ++ fls r)[3 * 0 + j]? = _
    rw [List.getElem?_append_left (by simp [flC]; omega)]
    simp
  | x :: r, i + 1, h, j, hj => by
    show (flC x ++ fls r)[3 * (i + 1) + j]? = _
    rw [List.getElem?_append_right (by simp [flC]; omega), show 3 * (i + 1) + j - (flC x).length = 3 * i + j by simp [flC]; omega]
    exact fls_get r i (by simpa using h) j hj
theorem flC_cell1 (x : Fl) : ∀ u ∈ flC x, u.oneCell' = true := by
  intro u hu
  simp [flC] at hu
  rcases hu with rfl | rfl | rfl <;> rfl
theorem info35 : (Tryz.prog.info? 109).map (fun i => (i.zero, i.size, i.bytes)) = some (some (.agg #[.int .i64 0, .int .i64 0, .int .i64 0]), 3, 24) := by kernel_rfl

/-- what 'append(falls, f)' leaves -/
structure FMore (w : World) (B : Nat) (v : Value) (fs : List Fl) (x : Fl) (v' : Value) (w' : World) : Prop where
  is : w'.ownsRow B 109 3 v' (fs.length + 1) (fls (fs ++ [x]))
  loc : v'.ownBlock = v.ownBlock ∨ ∃ g, v'.ownBlock = some g ∧ w.heap.size ≤ g
  keep : Keep (fun k => v.ownBlock = some k) w w'

theorem step_fapp {w w0 : World} {ops : Array Oper} {o : Oper} {a : Act} {K : Act → World → Prop} {Q : Exit → Act → World → Prop} {E : Prop} (hgd : o.guard = none) (sl x : Operand)
    (ho : o.op = .call { callee := .builtin .append, args := #[sl, x], argTypes := #[136, 136] }) (B : Nat) (v : Value) (fs : List Fl) (y : Fl) (Mc : Array Value) (hMc : Mc = (flC y).toArray) (hw : w.heap = (w0.alloc (.cells Mc 109)).heap) (hK : Keep (fun _ => False) w0 w)
    (hs : a.eval sl = v) (hx : a.eval x = .slice (some ⟨w0.heap.size, 0, none⟩) 1 1) (h0 : w0.ownsRow B 109 3 v fs.length (fls fs)) (hB : B ≤ w0.heap.size) (hl : fs.length ≤ 70368744177)
    (h : ∀ ad' cap' w', FMore w0 B v fs y (.slice ad' (fs.length + 1) cap') w' → K (a.put o.dst (.slice ad' (fs.length + 1) cap')) w') : if Region.wanted o (yielded ops a.tmps) = true then Oper.wp Tryz.prog o a w K Q else E := by
  have hwn : Region.wanted o (yielded ops a.tmps) = true := by simp [Region.wanted, hgd]
  rw [if_pos hwn]
  subst hMc
  obtain ⟨i0, hi, hz0, hz1, hz2⟩ := info_parts info35
  have hsz := hK.size
  have hcell : ∀ p, w.cell? p = (w0.alloc (.cells (flC y).toArray 109)).cell? p := fun p => by simp [World.cell?, hw]
  obtain ⟨v', w', hr, h2, h3, h4, h5⟩ := run_append_own_at (P := Tryz.prog) w B 136 o.type 109 i0 _ 3 24 Tryz.underlying136 hi hz0 hz1 hz2 rfl (by decide) v fs.length (fls fs) (hK.ownsRow h0 (fun _ _ h => h)) ⟨w0.heap.size, 0, none⟩ 1 1 (flC y) rfl
    (fun j u hu => by rw [Addr.add_lit, Nat.zero_add, hcell, cell_of_row _ _ _ _ _ _ (heap_alloc_new _ _)]; simpa using hu) (flC_cell1 y) (by unfold maxLen; omega) (by omega) (by omega)
  unfold Oper.wp execOp
  simp only [ho, resolve, invoke, builtin, Sem.run_bind, Sem.run_pure, Result.andThen_ok, List.map_toArray, List.map_cons, List.map_nil, hs, hx, hr, Oper.upon]
  obtain ⟨ad', cap', rfl⟩ : ∃ ad' cap', v' = .slice ad' (fs.length + 1) cap' := by
    rcases h2.2 with ⟨_, h0⟩ | ⟨g, cap, cur, e, _⟩
    · omega
    · exact ⟨_, _, e⟩
  refine h ad' cap' w' ⟨by rw [show fls (fs ++ [y]) = fls fs ++ flC y by simp [fls]]; exact h2, h5.imp id (fun e => ⟨_, e, hsz⟩), (hK.mono (fun _ _ h => h.elim)).trans ⟨h3.os, h3.tape, h3.output, h3.size, fun k hk hn => h3.block k hk (fun e => hn e.symm)⟩⟩

/-- the first falls are laid, in the map in block b -/
structure PlanAt (w : World) (p : Nat) (cs : List Value) (b B : Nat) (l : List Fl) (wr : World) : Prop where
  row : RowIs wr p (cs.set 6 (.map (some b))) 69
  keep : Keep (fun k => k = p) w wr
  hB : B ≤ wr.heap.size
  map : ∃ (D : DataW Value) (f : Int → Value), wr.ownsMap Tryz.prog 3 rawE b l.length D ∧ IsMap D ∧ (∀ q : Int, D.atKey (.int .i64 q) (.held (.slice none 0 0)) = .held (f q)) ∧ (∀ q : Int, wr.ownsRow B 109 3 (f q) (l.filter fun x => x.at_ = q).length (fls (l.filter fun x => x.at_ = q))) ∧
    ∀ q r : Int, q ≠ r → ∀ g, (f q).ownBlock = some g → (f r).ownBlock ≠ some g

theorem keyI {q : Int} (h : (Lit.int .i64 q).wf = true) : keyOf Tryz.prog 3 (.int .i64 q) = some (.int .i64 q) := keyOf_int_mk (P := Tryz.prog) Tryz.underlying3 h
theorem Keep.ownsMap {S : Nat → Prop} {w w' : World} {b n : Nat} {D : DataW Value} (k : Keep S w w') (h : w.ownsMap Tryz.prog 3 rawE b n D) (hS : ¬ S b) : w'.ownsMap Tryz.prog 3 rawE b n D := by
  have hlt := h.lt
  obtain ⟨es, clock, hb, r⟩ := h
  exact ⟨es, clock, (k.block b hlt hS).trans hb, r⟩
theorem filter_snoc (l : List Fl) (x : Fl) (q : Int) : ((l ++ [x]).filter fun y => y.at_ = q) = (l.filter fun y => y.at_ = q) ++ if x.at_ = q then [x] else [] := by
  rw [List.filter_append]
  by_cases h : x.at_ = q <;> simp [h]

/-- what one fall more asks -/
def PStep (w : World) (p : Nat) (cs : List Value) (b B : Nat) (l : List Fl) (x : Fl) (wr : World) : Prop :=
    ∃ v fs, fs.length ≤ 70368744177 ∧ wr.ownsRow B 109 3 v fs.length (fls fs) ∧ (∀ W, Keep (fun _ => False) wr W → (Instr.lookup 67 (.map (some b)) (.int .i64 x.at_) false).run Tryz.prog W = .ok v W) ∧
      ∀ v' wA w4, Keep (fun _ => False) wr wA → FMore wA B v fs x v' w4 → (∀ o, w4.cell? ⟨p, o, none⟩ = wr.cell? ⟨p, o, none⟩) ∧ (∀ g o u, wr.heap.size ≤ g → wA.cell? ⟨g, o, none⟩ = some u → w4.cell? ⟨g, o, none⟩ = some u) ∧
        ∀ W, Keep (fun _ => False) w4 W → ∃ w5, (Instr.mapUpdate 67 (.map (some b)) (.int .i64 x.at_) v').run Tryz.prog W = .ok () w5 ∧ PlanAt w p cs b B (l ++ [x]) w5 ∧ Keep (· = b) W w5
/-- one fall more -/
theorem plan_step {w wr : World} {p : Nat} {cs : List Value} {b B : Nat} {l : List Fl} (h : PlanAt w p cs b B l wr) (x : Fl) (hx : (Lit.int .i64 x.at_).wf = true) (hbB : b < B) (hbp : b ≠ p) (hpB : p < B) (hwb : w.heap.size ≤ b) (hll : l.length ≤ 70368744177) : PStep w p cs b B l x wr := by
  obtain ⟨D, f, hO, hI, hat, hrow, hap⟩ := h.map
  have hkey := keyI hx
  refine ⟨f x.at_, l.filter fun y => y.at_ = x.at_, Nat.le_trans (List.length_filter_le _ _) hll, hrow x.at_, fun W hW => ?_, fun v' wA w4 hA hm => ?_⟩
  · obtain ⟨v, ps, hr, hv⟩ := World.ownsMap.lookup (hW.ownsMap hO (fun h => h)) law3 Tryz.underlying67 (zero36 W) (zd := .held (.slice none 0 0)) (zp := []) rfl hkey
    rw [hat] at hv
    have e : f x.at_ = v := DataW.held.inj (held_inj hv)
    rw [← e] at hr
    exact hr
  · have hblk : ∀ q g, (f q).ownBlock = some g → B ≤ g ∧ g < wr.heap.size := fun q g e => by
      refine ⟨?_, ownsRow_lt (hrow q) e⟩
      rcases (hrow q).2 with ⟨e2, _⟩ | ⟨g', cap, cur, e2, hg, _⟩
      · rw [e2] at e; simp [Value.ownBlock] at e
      · rw [e2] at e; simp [Value.ownBlock] at e; omega
    have hpk : ¬ (f x.at_).ownBlock = some p := fun e => by have := hblk _ _ e; omega
    have hbk : ¬ (f x.at_).ownBlock = some b := fun e => by have := hblk _ _ e; omega
    have kr4 : Keep (fun k => (f x.at_).ownBlock = some k) wr w4 := (hA.mono (fun _ _ h => h.elim)).trans hm.keep
    have hp := h.row.lt
    have hsA := hA.size
    refine ⟨fun o => kr4.cell hp hpk, fun g o u hg hu => (hm.keep.cell (World.block_lt_of_cell? _ _ hu) (fun (e : (f x.at_).ownBlock = some g) => by have := hblk _ _ e; omega)).trans hu, fun W hW => ?_⟩
    have kW : Keep (fun k => (f x.at_).ownBlock = some k) wr W := kr4.trans (hW.mono (fun _ _ h => h.elim))
    have hOW := kW.ownsMap hO hbk
    obtain ⟨w5, hr5, hO5, ht5⟩ := World.ownsMap.store hOW law3 Tryz.underlying67 (by unfold maxLen; omega) (val := v') (d := .held v') (ps := []) hkey rfl
    have k5 := keep_map ht5
    have K5 : Keep (fun k => (f x.at_).ownBlock = some k ∨ k = b) wr w5 := (kW.mono (fun _ _ e => .inl e)).trans (k5.mono (fun _ _ e => .inr e))
    have hv'b : ∀ g, v'.ownBlock = some g → ¬ g = b := fun g e e2 => by
      rcases hm.loc with h1 | ⟨g', h1, h2⟩
      · exact hbk (by rw [← h1, e, e2])
      · rw [h1] at e; injection e with e
        have := hO.lt; omega
    refine ⟨w5, hr5, ⟨h.row.keep K5 (by rintro (e | e); exact hpk e; exact hbp e.symm), h.keep.then K5 (fun j hj e => ?_), Nat.le_trans h.hB K5.size, D.put (.int .i64 x.at_) (.held v'), fun q => if q = x.at_ then v' else f q, ?_, hI.put _ _, fun q => ?_, fun q => ?_, ?_⟩, k5⟩
    · rcases e with e | e
      · have := hblk _ _ e; omega
      · omega
    · simp only [List.length_append, List.length_singleton]; exact hO5
    · show _ = DataW.held (if q = x.at_ then v' else f q)
      by_cases hq : q = x.at_
      · subst hq; rw [if_pos rfl]; exact atKey_put_same (k := .int .i64 x.at_) hI (by simp [WideAt.IsKeyLit]) _ _
      · rw [if_neg hq, atKey_put_other (fun e => hq (by injection e))]; exact hat q
    · show w5.ownsRow B 109 3 (if q = x.at_ then v' else f q) _ _
      rw [filter_snoc]
      by_cases hq : q = x.at_
      · subst hq
        rw [if_pos rfl, if_pos rfl, List.length_append, List.length_singleton]
        exact k5.ownsRow (hW.ownsRow hm.is (fun _ _ h => h)) hv'b
      · rw [if_neg hq, if_neg (fun e => hq e.symm), List.append_nil]
        refine K5.ownsRow (hrow q) ?_
        rintro g e (e2 | e2)
        · exact hap q x.at_ hq g e e2
        · have := hblk _ _ e; omega
    · intro q r hqr g
      show (if q = x.at_ then v' else f q).ownBlock = some g → (if r = x.at_ then v' else f r).ownBlock ≠ some g
      have hvf : ∀ s, s ≠ x.at_ → ∀ g, v'.ownBlock = some g → (f s).ownBlock ≠ some g := fun s hs g e e2 => by
        rcases hm.loc with h1 | ⟨g', h1, h2⟩
        · exact hap x.at_ s (fun e => hs e.symm) g (h1 ▸ e) e2
        · rw [h1] at e; injection e with e
          have := hblk _ _ e2; omega
      by_cases hq : q = x.at_
      · rw [if_pos hq, if_neg (fun e => hqr (hq.trans e.symm))]
        exact hvf r (fun e => hqr (hq.trans e.symm)) g
      · rw [if_neg hq]
        by_cases hr : r = x.at_
        · rw [if_pos hr]; intro e e2; exact hvf q hq g e2 e
        · rw [if_neg hr]; exact hap q r hqr g

theorem plan_end {w wr : World} {c : Nat → Nat} {p : Nat} {R : Raw} {d : Ds} (h : DiskR w c p R d) (l : List Fl) (hl : l.length ≤ 70368744177) (ha : PlanAt w p (R.cs d) w.heap.size (w.heap.size + 1) l wr) : Left w c p { d with fl := l } wr := by
  obtain ⟨D, f, hO, hI, hat, hrow, hap⟩ := ha.map
  have hcp := h.cp
  have hp := h.row.lt
  have k := ha.keep
  let c' : Nat → Nat := fun j => if j < w.heap.size then c j else if j = w.heap.size then 5 else 6
  have hc : ∀ j, j < w.heap.size → c' j = c j := fun j hj => if_pos hj
  refine ⟨⟨c', ⟨{ R with fm := some w.heap.size }, ?_, by rw [hc p hp]; exact hcp, h.now.keep' k hc (fun j _ e => by rw [e]; omega), h.sure.keep' k hc (fun j _ e => by rw [e]; omega), h.eS, h.eN, h.safe, k.ownsRow h.wrow (fun g e e2 => by have := h.wcol g e; rw [e2] at this; omega), fun g e => by rw [hc g (ownsRow_lt h.wrow e)]; exact h.wcol g e, ?_, h.unt, h.oks, h.wnil, h.xap⟩, hc⟩, k.mono fun j _ e => by rw [e]; omega⟩
  · have e : (R.cs d).set 6 (.map (some w.heap.size)) = Raw.cs { R with fm := some w.heap.size } { d with fl := l } := by simp [Raw.cs, dC]
    rw [← e]; exact ha.row
  · refine .inr ⟨w.heap.size, l.length, D, f, rfl, ?_, hO, hI, by show l.length + l.length ≤ _; omega, hat, fun q => ?_⟩
    · show (if w.heap.size < w.heap.size then _ else if w.heap.size = w.heap.size then 5 else 6) = 5
      rw [if_neg (by omega), if_pos rfl]
    · have hq := hrow q
      show FRow wr c' (f q) (l.filter fun x => x.at_ = q)
      generalize (l.filter fun x => x.at_ = q) = fs at hq ⊢
      obtain ⟨h1, h2⟩ := hq
      rcases h2 with ⟨e, h0⟩ | ⟨g, cap, cur, e, hg, hb, hn, hm, hs, ht⟩
      · exact .inl ⟨none, 0, e, List.length_eq_zero_iff.1 h0⟩
      · refine .inr ⟨g, 0, cap, e, ?_, (Array.getElem?_eq_some_iff.1 hb).1, hn, fun j hj => ?_⟩
        · show (if g < w.heap.size then _ else if g = w.heap.size then 5 else 6) = 6
          rw [if_neg (by omega), if_neg (by omega)]
        · have hcell : ∀ i, i < 3 → wr.cell? ⟨g, 0 + 3 * j + i, none⟩ = (flC fs[j])[i]? := fun i hi => by
            rw [cell_of_row _ _ _ _ _ _ hb, ← fls_get fs j hj i hi, ← ht, List.getElem?_take_of_lt (by omega), Nat.zero_add]
            simp
          exact ⟨hcell 0 (by omega), hcell 1 (by omega), hcell 2 (by omega)⟩

/-- falls that are handed in -/
def FIn (w : World) (p : Nat) (v : Value) (l : List Fl) : Prop := (∃ ad cap, v = .slice ad 0 cap ∧ l = []) ∨ ∃ g off cap, v = .slice (some ⟨g, off, none⟩) l.length cap ∧ g ≠ p ∧ g < w.heap.size ∧
    ∀ j (h : j < l.length), w.cell? ⟨g, off + j * 3, none⟩ = some (.int .i64 l[j].at_) ∧ w.cell? ⟨g, off + j * 3 + 1, none⟩ = some (.int .i64 l[j].keep) ∧ w.cell? ⟨g, off + j * 3 + 2, none⟩ = some (.int .i64 l[j].torn)

end Go.Proofs.YtedogofeibdjiaaGreat
namespace Go.Proofs.YtedogofeibdjiaaGreat
open Go.RowKit Go.Maps
set_option linter.unusedVariables false
set_option linter.unusedSimpArgs false

section
variable (old fresh : Bs) (kp tn a : Int)
def sA : Ds := ⟨[], [⟨1, [97], [], old, 0⟩], 1, [], false, 0, false⟩
def sB : Ds := ⟨[([97], old)], [], 1, [], false, 0, false⟩
def sC : Ds := ⟨[([97], old)], [], 1, [⟨a, kp, tn⟩], false, 0, false⟩
def sD : Ds := ⟨[([97], old)], [⟨1, [98], [], fresh, 0⟩], 2, [⟨a, kp, tn⟩], false, 0, false⟩
def sE : Ds := ⟨[([97], old), ([98], fresh)], [], 2, [⟨a, kp, tn⟩], false, 0, false⟩
def sF : Ds := ⟨[([97], old), ([98], fresh)], [⟨2, [98], [97], [], 0⟩], 3, [⟨a, kp, tn⟩], false, 0, false⟩
def sG : Ds := ⟨[([97], fresh)], [], 3, [⟨a, kp, tn⟩], false, 0, false⟩
/-- struck at the first change -/
def tA : Ds := ⟨[([97], old)], [⟨1, [98], [], fresh, 0⟩], 1, [], false, 0, false⟩
/-- struck at the second -/
def tB : Ds := ⟨[([97], old), ([98], fresh)], [⟨2, [98], [97], [], 0⟩], 2, [], false, 0, false⟩

theorem ok97 : nameOk [97] = true := by decide
theorem ok98 : nameOk [98] = true := by decide
theorem wr_un (d : Ds) (name s : Bs) (h1 : d.dn = false) (h2 : d.bd = false) (h3 : nameOk name = true) : wrD d name s = chgD d ⟨1, name, [], s, 0⟩ := by
  unfold wrD
  rw [if_neg (by rw [h1]; decide), if_neg (by rw [h3]; decide), if_neg (by rw [h2]; unfold fitB; simp)]
theorem chg_off (d : Ds) (ch : Chg) (h : d.fl.find? (fun x => x.at_ = (d.n : Int)) = none) : chgD d ch = ({ d.more ch with n := d.n + 1 }, 0) := by unfold chgD; rw [h]
theorem chg_on (d : Ds) (ch : Chg) (f : Fl) (h : d.fl.find? (fun x => x.at_ = (d.n : Int)) = some f) : chgD d ch = (failD { d.more ch with fl := offF d.fl d.n } f.keep f.torn, 21) := by unfold chgD; rw [h]
theorem w1 : wrD d0 [97] old = (sA old, 0) := by
  rw [wr_un _ _ _ rfl rfl ok97, chg_off _ _ rfl]; rfl
theorem y1 : synD (sA old) = sB old := rfl
theorem p1 : ({ sB old with fl := [⟨a, kp, tn⟩] } : Ds) = sC old kp tn a := rfl
theorem w2_on : wrD (sC old kp tn 1) [98] fresh = (failD (tA old fresh) kp tn, 21) := by
  rw [wr_un _ _ _ rfl rfl ok98, chg_on _ _ ⟨1, kp, tn⟩ (by simp [sC])]
  simp [sC, offF, Ds.more, tA]
theorem w2_off (h : a ≠ 1) : wrD (sC old kp tn a) [98] fresh = (sD old fresh kp tn a, 0) := by
  rw [wr_un _ _ _ rfl rfl ok98, chg_off _ _ (by simp [sC]; exact decide_eq_false h)]; rfl
theorem y2 : synD (sD old fresh kp tn a) = sE old fresh kp tn a := rfl
theorem mv_un (d : Ds) (name to : Bs) (h1 : d.dn = false) (h2 : (nameOk name && nameOk to) = true) (h3 : (kget d.now name).isSome = true) (h4 : name ≠ to) : mvD d name to = chgD d ⟨2, name, to, [], 0⟩ := by
  unfold mvD
  rw [if_neg (by rw [h1]; decide), if_neg (by rw [h2]; decide), if_neg (by rw [h3]; decide), if_neg h4]
theorem m_on : mvD (sE old fresh kp tn 2) [98] [97] = (failD (tB old fresh) kp tn, 21) := by
  rw [mv_un _ _ _ rfl (by decide) rfl (by decide), chg_on _ _ ⟨2, kp, tn⟩ (by simp [sE])]
  simp [sE, offF, Ds.more, tB]
theorem m_off (h : a ≠ 2) : mvD (sE old fresh kp tn a) [98] [97] = (sF old fresh kp tn a, 0) := by
  rw [mv_un _ _ _ rfl (by decide) rfl (by decide), chg_off _ _ (by simp [sE]; exact decide_eq_false h)]; rfl
theorem y3 : synD (sF old fresh kp tn a) = sG fresh kp tn a := rfl

theorem fail_down2 (d : Ds) (h : d.dn = true) : failD d kp tn = d := by unfold failD; rw [if_pos h]
theorem dn_fail (d : Ds) : (failD d kp tn).dn = true := by
  unfold failD
  by_cases h : d.dn = true
  · rw [if_pos h]; exact h
  · rw [if_neg h]
theorem rd_up (d : Ds) (h : d.dn = true) (name : Bs) (hn : nameOk name = true) (b : Bs) (hk : kget d.now name = some b) : rdD { d with dn := false } name = (b, 0) := by
  unfold rdD
  rw [if_neg (by simp), if_neg (by rw [hn]; decide)]
  have : kget ({ d with dn := false } : Ds).now name = some b := hk
  rw [this]
theorem now_fail (d : Ds) (h : d.dn = false) : (failD d kp tn).now = failS d kp tn := by unfold failD; rw [h]; rfl
theorem keep01 (k : Int) (n : Nat) (h : n = 1) : min k.toNat n = 0 ∨ min k.toNat n = 1 := by omega
theorem r_tA : kget (failS (tA old fresh) kp tn) [97] = some old := by
  unfold failS keepN
  have h : (tA old fresh).ws.length = 1 := rfl
  rcases keep01 kp _ h with e | e
  · rw [e]
    show kget (tearC [([97], old)] ⟨1, [98], [], fresh, 0⟩ tn) [97] = some old
    unfold tearC
    split
    · rfl
    · rfl
  · rw [e]; rfl
theorem r_tB : kget (failS (tB old fresh) kp tn) [97] = some old ∨ kget (failS (tB old fresh) kp tn) [97] = some fresh := by
  unfold failS keepN
  have h : (tB old fresh).ws.length = 1 := rfl
  rcases keep01 kp _ h with e | e
  · rw [e]
    refine .inl ?_
    show kget (tearC [([97], old), ([98], fresh)] ⟨2, [98], [97], [], 0⟩ tn) [97] = some old
    unfold tearC
    rw [if_pos (.inr (by decide))]
    rfl
  · rw [e]; exact .inr rfl
theorem r_sG : kget (failS (sG fresh kp tn a) kp tn) [97] = some fresh := by
  unfold failS keepN
  have h : min kp.toNat (sG fresh kp tn a).ws.length = 0 := by show min kp.toNat 0 = 0; omega
  rw [h]; rfl
end
end Go.Proofs.YtedogofeibdjiaaGreat
namespace Go.Proofs.YtedogofeibdjiaaGreat
open Go.RowKit Go.Maps
set_option linter.unusedVariables false
set_option linter.unusedSimpArgs false

def d1 : Ds := (appD d0 [97] [120, 121]).1
def d2 : Ds := failD d1 0 1
def d3 : Ds := { d2 with dn := false }
theorem d1_told : (appD d0 [97] [120, 121]).2 = 0 := by decide
theorem d3_told : rdD d3 [97] = ([120], 0) := by decide

end Go.Proofs.YtedogofeibdjiaaGreat
namespace Go.Proofs.YtedogofeibdjiaaGreat
open Go.RowKit Go.Maps
set_option linter.unusedVariables false
set_option linter.unusedSimpArgs false

theorem step_left {w1 wi : World} {c : Nat → Nat} {p : Nat} {s s' : Ds} {f : FuncId} {args : Array Value} {r : Value} (h : Left w1 c p s wi) (C : ∀ W c, DiskIs W c p s → Calls Tryz.prog f args W fun e w' => e = .returned r ∧ Left W c p s' w') : Calls Tryz.prog f args wi fun e w' => e = .returned r ∧ Left w1 c p s' w' := by
  obtain ⟨⟨ci, D, hc⟩, K⟩ := h
  exact (C wi ci D).mono fun e w' ⟨he, hL⟩ => ⟨he, hL.trans hc K⟩
theorem step_same {w1 wi : World} {c : Nat → Nat} {p : Nat} {s : Ds} {f : FuncId} {args : Array Value} {r : Value} (h : Left w1 c p s wi) (C : ∀ W c, DiskIs W c p s → Calls Tryz.prog f args W fun e w' => e = .returned r ∧ Keep (fun _ => False) W w') : Calls Tryz.prog f args wi fun e w' => e = .returned r ∧ Left w1 c p s w' :=
  step_left h fun W c hD => (C W c hD).mono fun e w' ⟨he, hk⟩ => ⟨he, left_same hD hk⟩
theorem fail_dead (p : Nat) (c : Nat → Nat) (d : Ds) (keep torn : Int) (w : World) (h : DiskIs w c p d) (hdn : d.dn = true) :
    Calls Tryz.prog 35 #[.pointer (some ⟨p, 0, none⟩), .int .i64 keep, .int .i64 torn] w fun e w' => e = .returned (.tuple #[]) ∧ Left w c p d w' := by
  have hd := h.down
  rw [hdn] at hd
  refine (fail_down _ keep torn w hd).mono fun e w' ⟨he, hw⟩ => ⟨he, ?_⟩
  subst hw
  exact left_same h (Keep.refl _ _)
set_option maxRecDepth 100000 in
theorem changes_any (p : Nat) (c : Nat → Nat) (d : Ds) (w : World) (h : DiskIs w c p d) : Calls Tryz.prog 28 #[.pointer (some ⟨p, 0, none⟩)] w fun e w' => e = .returned (.int .i64 d.n) ∧ Keep (fun _ => False) w w' := by
  have c5 := h.cells.2.1
  clear h
  go_enter Tryz.func28, Tryz.ntmps28
  go_wp2
  go_ret
  exact ⟨rfl, Keep.refl _ _⟩
theorem mov_below {w w0 w1 wi wN : World} {p : Nat} {s : Ds} (k0 : Keep (fun _ => False) w w0) (k1 : Keep (fun _ => False) w0 w1) (h : Left w1 (c0 p) p s wi) (k2 : Keep (fun _ => False) wi wN) (hp : w.heap.size ≤ p) : Below w.heap.size w wN := by
  have k : Keep (fun k => c0 p k < 6) w wN := (((k0.trans k1).mono (fun _ _ h => h.elim)).trans h.2).then k2 (fun _ _ h => h.elim)
  refine keep_below k (fun j hj h => ?_) (Nat.le_refl _)
  have h' : (if j = p then 0 else 7) < 6 := h
  rw [if_neg (by omega)] at h'
  omega
theorem fb_at {w1 wi : World} {p fb : Nat} {s : Ds} {cs : List Value} {t : TypeId} (h : Left w1 (c0 p) p s wi) (hr : RowIs w1 fb cs t) (hne : fb ≠ p) : RowIs wi fb cs t := hr.keep h.2 (fun h => by
  have h' : (if fb = p then 0 else 7) < 6 := h
  rw [if_neg hne] at h'
  omega)

theorem at_val (a : Int) : ∃ t : Int, wrap64 (1 + (wrap64 (a.tmod 4 + 4)).tmod 4) = t ∧ (t = 1 ∨ t = 2 ∨ t = 3 ∨ t = 4) := by
  refine ⟨_, rfl, ?_⟩
  have h1 : -4 < a.tmod 4 ∧ a.tmod 4 < 4 := by
    have h2 := Int.natAbs_tmod a 4
    have h3 : (a.tmod 4).natAbs < 4 := by rw [h2]; exact Nat.mod_lt _ (by decide)
    omega
  have e1 : wrap64 (a.tmod 4 + 4) = a.tmod 4 + 4 := IntWalk.wrap64_in _ (by omega)
  rw [e1, Int.tmod_eq_emod_of_nonneg (by omega), IntWalk.wrap64_in _ (by omega)]
  omega
theorem wf_at {t : Int} (h : t = 1 ∨ t = 2 ∨ t = 3 ∨ t = 4) : (Lit.int .i64 t).wf = true := by
  rcases h with rfl | rfl | rfl | rfl <;> decide
theorem tx_self (A : ByteArray) : (A.toList == A.toList) = true := by simp

end Go.Proofs.YtedogofeibdjiaaGreat
