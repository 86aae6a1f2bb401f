/- Joined: The walks of a disk's questions of room and of files. The walks of calls that are refused: the disk is down, or a name is none. The walks of calls that change files. The walks of calls that lay files anew, move them, read them. The walks of a new disk, and of the power's coming again. The walk of a file's being made what it is among others. The walk of all that waits being made sure. The walks of the calls that take files away and cut them, and of small questions. Laying a file whole, and clearing what was left: package whole. Which snapshots may be. A snapshot's text. -/
import Derived.Test.YtnldjcoajliciaaGreatChangeW
import Derived.BigQuiet
import Derived.Test.YtnldjcoajliciaaGreatJoined01
import Derived.Test.YtnldjcoajliciaaGreatJoined04
namespace Go.Proofs.YtnldjcoajliciaaGreat
open Go.RowKit Go.Maps
set_option linter.unusedVariables false
set_option linter.unusedSimpArgs false

theorem keep_drewN (w : World) (n : Nat) : Keep (fun _ => False) w (w.drewN n) := by
  have := below_drewN (Below.refl w.heap.size w) n
  exact this.keep _

end Go.Proofs.YtnldjcoajliciaaGreat
namespace Go.Proofs.YtnldjcoajliciaaGreat
open Go.RowKit Go.Maps
set_option linter.unusedVariables false
set_option linter.unusedSimpArgs false

theorem DownIs.keep {S : Nat → Prop} {w w' : World} {dp : Value} {dn : Bool} (h : DownIs w dp dn) (k : Keep S w w') (hS : ∀ p, dp = .pointer (some ⟨p, 0, none⟩) → ¬ S p) : DownIs w' dp dn := by
  rcases h with h | ⟨p, e, h⟩
  · exact .inl h
  · refine .inr ⟨p, e, ?_⟩
    have hp := World.block_lt_of_cell? _ _ h
    exact (k.cell hp (hS p e)).trans h
end Go.Proofs.YtnldjcoajliciaaGreat
namespace Go.Proofs.YtnldjcoajliciaaGreat
open Go.RowKit Go.Maps
set_option linter.unusedVariables false
set_option linter.unusedSimpArgs false

end Go.Proofs.YtnldjcoajliciaaGreat
namespace Go.Proofs.YtnldjcoajliciaaGreat
open Go.RowKit Go.Maps
set_option linter.unusedVariables false
set_option linter.unusedSimpArgs false

end Go.Proofs.YtnldjcoajliciaaGreat
namespace Go.Proofs.YtnldjcoajliciaaGreat
open Go.RowKit Go.Maps
set_option linter.unusedVariables false
set_option linter.unusedSimpArgs false

/-- a disk without files -/
def d0 : Ds := ⟨[], [], 0, [], false, 0, false⟩
/-- the colors of a world in which one block is a disk's -/
def c0 (p : Nat) (k : Nat) : Nat := if k = p then 0 else 7
end Go.Proofs.YtnldjcoajliciaaGreat
namespace Go.Proofs.YtnldjcoajliciaaGreat
open Go.RowKit Go.Maps
set_option linter.unusedVariables false
set_option linter.unusedSimpArgs false

section
variable {α : Type}
end
end Go.Proofs.YtnldjcoajliciaaGreat
namespace Go.Proofs.YtnldjcoajliciaaGreat
open Go.RowKit Go.Maps
set_option linter.unusedVariables false
set_option linter.unusedSimpArgs false

end Go.Proofs.YtnldjcoajliciaaGreat
namespace Go.Proofs.YtnldjcoajliciaaGreat
open Go.RowKit Go.Maps
set_option linter.unusedVariables false
set_option linter.unusedSimpArgs false

end Go.Proofs.YtnldjcoajliciaaGreat
namespace Go.Proofs.YtnldjcoajliciaaGreat
open Go.RowKit Go.Maps
set_option linter.unusedVariables false
set_option linter.unusedSimpArgs false

end Go.Proofs.YtnldjcoajliciaaGreat
namespace Go.Proofs.YtnldjcoajliciaaGreat
open Go.RowKit Go.Maps
set_option linter.unusedVariables false
set_option linter.unusedSimpArgs false

/-- a snapshot -/
structure Sh where
  ix : Int
  tm : Int
  ms : List Int
  da : ByteArray
def wthn (n : Int) : Bool := decide (0 ≤ n) && decide (n ≤ 1099511627776)
def chkS (s : Sh) : Int := if (wthn s.ix && wthn s.tm && areM s.ms) = true then (if 131072 < s.da.size then 2 else 0) else 1
set_option maxRecDepth 100000 in
set_option maxHeartbeats 400000 in
theorem within_any (n : Int) (w : World) : Calls Tryz.prog 43 #[.int .i64 n] w fun e w' => e = .returned (.bool (wthn n)) ∧ w' = w := by
  go_enter Tryz.func43, Tryz.ntmps43
  by_cases h : 0 ≤ n
  · have hw : wthn n = decide (n ≤ 1099511627776) := by simp [wthn, h]
    go_wp2
    go_ret
    rw [hw]
    exact ⟨rfl, rfl⟩
  · have h' : n < 0 := by omega
    have hw : wthn n = false := by simp [wthn]; omega
    go_wp2
    go_ret
    exact ⟨rfl, rfl⟩
set_option maxRecDepth 100000 in
set_option maxHeartbeats 1000000 in
theorem areMembers_any (v : Value) (l : List Int) (w : World) (hv : IntsI w v l) (hl : l.length ≤ 9223372036854775807) : Calls Tryz.prog 44 #[v] w fun e w' => e = .returned (.bool (areM l)) ∧ w' = w := by
  obtain ⟨ad, cap, rfl, hc⟩ := hv.form
  have HC := hid hc
  have HA : Hid (areM l = (rises (-1) l && decide (0 < l.length))) := rfl
  generalize areM l = R at *
  clear hc hv
  go_enter Tryz.func44, Tryz.ntmps44
  go_wp2
  go_loopw [3, 8] (fun a i wr => ∃ (k : Nat) (x : Int), k ≤ l.length ∧ a = .int .i64 x ∧ i = .int .i64 (k : Int) ∧ w = wr ∧ Hid (rises (-1) l = rises x (l.drop k))) (fun _ i _ => l.length - (intOf i).toNat)
  case atStart => exact ⟨0, -1, Nat.zero_le _, rfl, rfl, rfl, rfl⟩
  case round =>
    obtain ⟨k, x, hk, rfl, rfl, rfl, HR⟩ := hrel
    by_cases hlt : k < l.length
    · have hk0 : (0 : Int) ≤ (k : Int) := by omega
      have hk1 : (k : Int) < (l.length : Int) := by omega
      obtain ⟨b, off, rfl, hb, hc⟩ := HC.out k hlt
      have HRA := hid (rises_at (a := x) hlt)
      have HL0 : Hid (0 < l.length) := by show _ < _; omega
      generalize l[k] = y at *
      clear HC hb
      by_cases h1 : x < y
      · have g1 : ¬ y ≤ x := by omega
        by_cases h2 : y < 7
        · have g2 : ¬ 7 ≤ y := by omega
          have HR2 : Hid (rises (-1) l = rises y (l.drop (k + 1))) := by show _ = _; rw [HR.out, HRA.out]; simp [h1, h2]
          clear HR HRA HL0 HA
          go_wp2
          exact ⟨⟨k + 1, y, by omega, rfl, by go_num, by first | rfl | trivial, HR2⟩, by simp [intOf]; omega⟩
        · have g2 : 7 ≤ y := by omega
          have HRF : Hid (R = false) := by show _ = _; rw [HA.out, HR.out, HRA.out]; simp [h2]
          clear HR HRA HL0 HA
          go_wp2
          go_ret
          rw [HRF.out]
          exact ⟨rfl, rfl⟩
      · have g1 : y ≤ x := by omega
        have HRF : Hid (R = false) := by show _ = _; rw [HA.out, HR.out, HRA.out]; simp [h1]
        clear HR HRA HL0 HA
        go_wp2
        go_ret
        rw [HRF.out]
        exact ⟨rfl, rfl⟩
    · have hk9 : k = l.length := by omega
      subst hk9
      have hdl : decide ((l.length : Int) < (l.length : Int)) = false := decide_eq_false (by omega)
      have HR2 : Hid (R = decide (0 < l.length)) := by
        show _ = _
        rw [HA.out, HR.out, List.drop_length]
        simp [rises]
      clear HR HA HC
      go_wp2
      go_ret
      rw [HR2.out]
      exact ⟨rfl, rfl⟩
def shV (v : Value) (s : Sh) : Value := .agg #[.int .i64 s.ix, .int .i64 s.tm, v, .string s.da]
set_option maxRecDepth 100000 in
set_option maxHeartbeats 1000000 in
theorem check_any (v : Value) (s : Sh) (w : World) (hv : IntsI w v s.ms) (hl : s.ms.length ≤ 9223372036854775807) : Calls Tryz.prog 17 #[shV v s] w fun e w' => e = .returned (.int .i64 (chkS s)) ∧ Below w.heap.size w w' := by
  obtain ⟨ad, cap, rfl, _⟩ := hv.form
  have WI := hid (fun n W => within_any n W)
  have MI : Hid (∀ W, Below w.heap.size w W → Calls Tryz.prog 44 #[.slice ad s.ms.length cap] W fun e w' => e = .returned (.bool (areM s.ms)) ∧ w' = W) := fun W hW => areMembers_any _ s.ms W (hv.next hW) hl
  have HK : Hid (chkS s = if (wthn s.ix && wthn s.tm && areM s.ms) = true then (if 131072 < s.da.size then 2 else 0) else 1) := rfl
  generalize chkS s = R at *
  unfold shV
  obtain ⟨ix, tm, ms, da⟩ := s
  simp only at *
  clear hv
  generalize areM ms = M at *
  have KA : Hid (Below w.heap.size w (w.alloc (.cells #[.int .i64 ix, .int .i64 tm, .slice ad ms.length cap, .string da] 28))) := (Below.refl _ _).alloc (Nat.le_refl _) _
  have KD : Hid (∀ q, Below w.heap.size w (World.drewN (w.alloc (.cells #[.int .i64 ix, .int .i64 tm, .slice ad ms.length cap, .string da] 28)) q)) := fun q => below_drewN KA.out q
  have y0 := (srow w [.int .i64 ix, .int .i64 tm, .slice ad ms.length cap, .string da] 28).cellAt (o := 0) rfl
  have y1 := (srow w [.int .i64 ix, .int .i64 tm, .slice ad ms.length cap, .string da] 28).cellAt (o := 1) rfl
  have y2 := (srow w [.int .i64 ix, .int .i64 tm, .slice ad ms.length cap, .string da] 28).cellAt (o := 2) rfl
  have y3 := (srow w [.int .i64 ix, .int .i64 tm, .slice ad ms.length cap, .string da] 28).cellAt (o := 3) rfl
  have W1 := hid (WI.out ix)
  have W2 := hid (WI.out tm)
  generalize wthn ix = A at *
  generalize wthn tm = B at *
  clear WI KD
  go_enter Tryz.func17, Tryz.ntmps17
  cases A
  · have HR : Hid (R = 1) := HK.out
    clear HK
    go_wp2_with fail
    refine (W1.out _).mono ?_
    rintro e w1 ⟨rfl, rfl⟩
    go_wp2
    go_ret
    rw [HR.out]
    exact ⟨rfl, KA.out⟩
  · go_wp2_with fail
    refine (W1.out _).mono ?_
    rintro e w1 ⟨rfl, rfl⟩
    cases B
    · have HR : Hid (R = 1) := HK.out
      clear HK
      go_wp2_with fail
      refine (W2.out _).mono ?_
      rintro e w1 ⟨rfl, rfl⟩
      go_wp2
      go_ret
      rw [HR.out]
      exact ⟨rfl, KA.out⟩
    · go_wp2_with fail
      refine (W2.out _).mono ?_
      rintro e w1 ⟨rfl, rfl⟩
      go_wp2_with fail
      refine (MI.out _ KA.out).mono ?_
      rintro e w1 ⟨rfl, rfl⟩
      cases M
      · have HR : Hid (R = 1) := HK.out
        clear HK
        go_wp2
        go_ret
        rw [HR.out]
        exact ⟨rfl, KA.out⟩
      · by_cases hd : 131072 < da.size
        · have hd' : (131072 : Int) < (da.size : Int) := by omega
          have HR : Hid (R = 2) := by show _ = _; rw [HK.out]; simp [hd]
          clear HK
          go_wp2
          go_ret
          rw [HR.out]
          exact ⟨rfl, KA.out⟩
        · have hd' : ¬ (131072 : Int) < (da.size : Int) := by omega
          have HR : Hid (R = 0) := by show _ = _; rw [HK.out]; simp [hd]
          clear HK
          go_wp2
          go_ret
          rw [HR.out]
          exact ⟨rfl, KA.out⟩
end Go.Proofs.YtnldjcoajliciaaGreat
namespace Go.Proofs.YtnldjcoajliciaaGreat
open Go.RowKit Go.Maps
set_option linter.unusedVariables false
set_option linter.unusedSimpArgs false

theorem chk_ok {s : Sh} (h : chkS s = 0) : wthn s.ix = true ∧ wthn s.tm = true ∧ (∀ x ∈ s.ms, 0 ≤ x ∧ x < 7) ∧ s.ms.length ≤ 7 ∧ s.da.size ≤ 131072 := by
  unfold chkS at h
  split at h
  · rename_i h1
    simp [areM] at h1
    obtain ⟨⟨h1, h2⟩, h3, h4⟩ := h1
    split at h
    · cases h
    · have := rises_len h3 (by omega)
      exact ⟨h1, h2, rises_bd h3 (by omega), by omega, by omega⟩
  · cases h
/-- what is held while a snapshot's text is made -/
def HeldS (w0 : World) (g : Nat) (cs : List Value) (t : TypeId) (W : World) : Prop := RowIs W g cs t ∧ Below w0.heap.size w0 W
theorem HeldS.next {w0 W W' : World} {g : Nat} {cs : List Value} {t : TypeId} (h : HeldS w0 g cs t W) (hB : Below W.heap.size W W') : HeldS w0 g cs t W' :=
  ⟨h.1.keep (hB.keep (fun _ => False)) (fun h => h), h.2.trans (hB.mono h.2.size)⟩
end Go.Proofs.YtnldjcoajliciaaGreat
