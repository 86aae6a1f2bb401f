/- The walks of a new disk, of the power's coming again, and of the law's own look whether a disk works at all. -/
import Derived.Test.YtnlodlpjokkepabWrW
namespace Go.Proofs.Ytnlodlpjokkepab
open Go.RowKit Go.Maps
set_option linter.unusedVariables false
set_option linter.unusedSimpArgs false

/-- a disk without files -/
def d0 : Ds := ⟨[], [], 0, [], false, 0, false⟩
/-- the colors of a world in which one block is a disk's -/
def c0 (p : Nat) (k : Nat) : Nat := if k = p then 0 else 7
theorem fil_none (w : World) (c : Nat → Nat) (mc : Nat) : FilIs w c mc none [] := ⟨.inl ⟨rfl, rfl⟩, fun b e => (by cases e), fun x hx => (by cases hx), fun x hx => (by cases hx), fun x hx => (by cases hx), srt_nil⟩

set_option maxRecDepth 100000 in
theorem new_any (w : World) : Calls Try.prog 9 #[] w fun e w' => e = .returned (.pointer (some ⟨w.heap.size, 0, none⟩)) ∧ DiskIs w' (c0 w.heap.size) w.heap.size d0 ∧ Keep (fun _ => False) w w' := by
  have HD : Hid (DiskIs (w.alloc (.cells #[.map none, .int .i64 0, .map none, .int .i64 0, .slice none 0 0, .int .i64 0, .map none, .bool false, .int .i64 0, .bool false] 73)) (c0 w.heap.size) w.heap.size d0) := by
    refine ⟨⟨none, none, [], [], .slice none 0 0, none⟩, ?_, if_pos rfl, fil_none _ _ _, fil_none _ _ _, rfl, rfl, fun y hy => by simp at hy, ⟨rfl, .inl ⟨rfl, rfl⟩⟩, fun g e => by simp [Value.ownBlock] at e, .inl ⟨rfl, rfl⟩, fun m _ => rfl, fun i hi => by simp [d0] at hi⟩
    exact heap_alloc_new _ _
  go_enter Try.func9, Try.ntmps9
  go_wp2
  go_ret
  exact ⟨rfl, HD.out, keep_alloc _ _ _⟩

theorem Left.trans {w w1 w2 : World} {c c1 : Nat → Nat} {p : Nat} {d : Ds} (hc : ∀ k, k < w.heap.size → c1 k = c k) (hk : Keep (fun k => c k < 7) w w1) (h : Left w1 c1 p d w2) : Left w c p d w2 := by
  obtain ⟨⟨c', hD, hc'⟩, hK⟩ := h
  have hs := hk.size
  exact ⟨⟨c', hD, fun k hk => by rw [hc' k (by omega), hc k hk]⟩, hk.then hK fun j hj e => by rw [← hc j hj]; exact e⟩

set_option maxRecDepth 100000 in
theorem up_nil (w : World) : Calls Try.prog 19 #[.pointer none] w fun e w' => e = .returned (.bool false) ∧ w' = w := by
  go_enter Try.func19, Try.ntmps19
  go_wp2
  go_ret
  exact ⟨rfl, rfl⟩
set_option maxRecDepth 100000 in
theorem up_any (p : Nat) (c : Nat → Nat) (d : Ds) (w : World) (h : DiskIs w c p d) : Calls Try.prog 19 #[.pointer (some ⟨p, 0, none⟩)] w fun e w' => e = .returned (.bool d.dn) ∧ Left w c p { d with dn := false } w' := by
  obtain ⟨R, h⟩ := h
  have c9 : w.cell? ⟨p, 9, none⟩ = some (.bool d.dn) := h.row.cellAt (by simp [Raw.cs, dC])
  have f9 := h.row.frozen (o := 9)
  have HL : Hid (Left w c p { d with dn := false } (w.setCell ⟨p, 9, none⟩ (.bool false))) := by
    have k := keep_setCell w p 9 (.bool false)
    have hcp := h.cp
    have hr := h.row.set 9 (.bool false)
    refine ⟨⟨c, ⟨R, ?_, h.cp, h.now.keep' k (fun _ _ => rfl) (fun j _ e => by rw [e]; omega), h.sure.keep' k (fun _ _ => rfl) (fun j _ e => by rw [e]; omega), h.eS, h.eN, h.safe, k.ownsRow h.wrow (fun g e e2 => by have := h.wcol g e; rw [e2] at this; omega), h.wcol, h.fall.keep k (fun _ _ => rfl) (fun j _ e => by rw [e]; omega), h.unt, h.oks⟩, fun _ _ => rfl⟩, k.mono fun j _ e => by rw [e]; omega⟩
    have e : (R.cs d).set 9 (.bool false) = R.cs { d with dn := false } := by simp [Raw.cs, dC]
    rw [← e]; exact hr
  clear h
  go_enter Try.func19, Try.ntmps19
  go_wp2
  go_ret
  exact ⟨rfl, HL.out⟩
/-- a loss of power, whether the disk is down or not -/
theorem fail_any (p : Nat) (c : Nat → Nat) (d : Ds) (keep torn : Int) (w : World) (h : DiskIs w c p d) (hM : d.wt + d.S.length + d.ws.length ≤ 70368744177664) :
    Calls Try.prog 18 #[.pointer (some ⟨p, 0, none⟩), .int .i64 keep, .int .i64 torn] w fun e w' => e = .returned (.tuple #[]) ∧ Left w c p (failD d keep torn) w' := by
  by_cases hdn : d.dn = true
  · have hd := h.down
    rw [hdn] at hd
    refine (fail_down _ keep torn w hd).mono fun e w' ⟨he, hw⟩ => ⟨he, ?_⟩
    subst hw
    have e : failD d keep torn = d := by unfold failD; rw [if_pos hdn]
    rw [e]; exact left_same h (Keep.refl _ _)
  · obtain ⟨R, hR⟩ := h
    exact fail_up p c R d keep torn w hR.f (by simpa using hdn) hM

def d1 : Ds := (appD d0 [97] [120, 121]).1
def d2 : Ds := failD d1 0 1
def d3 : Ds := { d2 with dn := false }
theorem d1_told : (appD d0 [97] [120, 121]).2 = 0 := by decide
theorem d3_told : rdD d3 [97] = ([120], 0) := by decide

set_option maxRecDepth 100000 in
set_option maxHeartbeats 1000000 in
theorem awake4 (w : World) : Calls Try.prog 10 #[] w fun e w' => e = .returned (.bool true) ∧ Below w.heap.size w w' := by
  have HN := hid (new_any w)
  have HA : Hid (∀ W c, DiskIs W c w.heap.size d0 → Calls Try.prog 17 #[.pointer (some ⟨w.heap.size, 0, none⟩), .string ⟨#[97]⟩, .string ⟨#[120, 121]⟩] W fun e w' => e = .returned (.int .i64 0) ∧ Left W c w.heap.size d1 w') := by
    intro W c h
    have := append_any w.heap.size c d0 [97] [120, 121] W h (by decide) (by decide)
    rw [d1_told] at this
    exact this
  have HF : Hid (∀ W c, DiskIs W c w.heap.size d1 → Calls Try.prog 18 #[.pointer (some ⟨w.heap.size, 0, none⟩), .int .i64 0, .int .i64 1] W fun e w' => e = .returned (.tuple #[]) ∧ Left W c w.heap.size d2 w') := fun W c h => fail_any w.heap.size c d1 0 1 W h (by decide)
  have HU : Hid (∀ W c, DiskIs W c w.heap.size d2 → Calls Try.prog 19 #[.pointer (some ⟨w.heap.size, 0, none⟩)] W fun e w' => e = .returned (.bool d2.dn) ∧ Left W c w.heap.size d3 w') := fun W c h => up_any w.heap.size c d2 W h
  have HR : Hid (∀ W c, DiskIs W c w.heap.size d3 → Calls Try.prog 20 #[.pointer (some ⟨w.heap.size, 0, none⟩), .string ⟨#[97]⟩] W fun e w' => e = .returned (.tuple #[.string ⟨#[120]⟩, .int .i64 0]) ∧ Keep (fun _ => False) W w') := by
    intro W c h
    have := read_any w.heap.size c d3 [97] W h
    rw [d3_told] at this
    exact this
  generalize d1 = e1 at *
  generalize d2 = e2 at *
  generalize d3 = e3 at *
  go_enter Try.func10, Try.ntmps10
  go_wp2_with fail
  refine HN.out.mono ?_
  rintro e w1 ⟨rfl, hD, hk⟩
  have HD1 := hid hD
  have HK1 := hid hk
  clear HN hD hk
  go_wp2_with fail
  refine (HA.out _ _ HD1.out).mono ?_
  rintro e w2 ⟨rfl, hL⟩
  have HL2 := hid hL
  clear HA hL
  obtain ⟨⟨c2, D2, C2⟩, K2⟩ := HL2.out
  have HD2 := hid D2
  have HC2 := hid C2
  have HK2 := hid K2
  clear D2 C2 K2 HL2 HD1
  go_wp2_with fail
  refine (HF.out _ _ HD2.out).mono ?_
  rintro e w3 ⟨rfl, hL⟩
  have HL3 := hid (hL.trans HC2.out HK2.out)
  clear HF hL HD2 HC2 HK2
  obtain ⟨⟨c3, D3, C3⟩, K3⟩ := HL3.out
  have HD3 := hid D3
  have HC3 := hid C3
  have HK3 := hid K3
  clear D3 C3 K3 HL3
  go_wp2_with fail
  refine (HU.out _ _ HD3.out).mono ?_
  rintro e w4 ⟨rfl, hL⟩
  have HL4 := hid (hL.trans HC3.out HK3.out)
  clear HU hL HD3 HC3 HK3
  obtain ⟨⟨c4, D4, C4⟩, K4⟩ := HL4.out
  have HD4 := hid D4
  have HK4 := hid K4
  clear D4 C4 K4 HL4
  go_wp2_with fail
  refine (HR.out _ _ HD4.out).mono ?_
  rintro e w5 ⟨rfl, hk⟩
  have HB : Hid (Below w.heap.size w w5) := by
    have k1 : Keep (fun k => c0 w.heap.size k < 7) w w4 := (HK1.out.mono (fun _ _ h => h.elim)).trans HK4.out
    have k5 : Keep (fun k => c0 w.heap.size k < 7) w w5 := k1.then hk (fun _ _ h => h.elim)
    refine keep_below k5 (fun k hk h => ?_) (Nat.le_refl _)
    have h' : (if k = w.heap.size then 0 else 7) < 7 := h
    rw [if_neg (by omega)] at h'
    omega
  clear HR hk HD4 HK4 HK1
  go_wp2
  go_ret
  exact ⟨rfl, HB.out⟩
end Go.Proofs.Ytnlodlpjokkepab
