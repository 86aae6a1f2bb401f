/- The walk of two lists of files that are the same; and of a call as an act says. -/
import Derived.Test.YtnlodlpjokkepabFilesW
namespace Go.Proofs.Ytnlodlpjokkepab
open Go.RowKit Go.Maps
set_option linter.unusedVariables false
set_option linter.unusedSimpArgs false

theorem tl_self (A : ByteArray) : (A.toList == A.toList) = true := by simp
theorem file_cell {w : World} {B n g cap k : Nat} {A : List (Bs × Bs)} (h : w.ownsRow B 50 2 (.slice (some ⟨g, 0, none⟩) n cap) n (fC A)) (hk : k < A.length) : w.cell? ⟨g, k * 2, none⟩ = some (.string (tx (A[k]).1)) ∧ w.cell? ⟨g, k * 2 + 1, none⟩ = some (.string (tx (A[k]).2)) := by
  obtain ⟨h1, h2⟩ := h
  rcases h2 with ⟨e, _⟩ | ⟨g', cap', cur, e, hg, hb, hn, hm, hs, ht⟩
  · injection e with e; cases e
  · injection e with e1 e2 e3
    injection e1 with e1
    injection e1 with e1
    subst e1
    have hl : (fC A).length = A.length * 2 := by
      clear h1 ht hk
      induction A with
      | nil => rfl
      | cons x r ih => simp [fC, fC1] at ih ⊢; omega
    have hc : ∀ j, j < 2 → w.cell? ⟨g, k * 2 + j, none⟩ = (fC1 A[k])[j]? := fun j hj => by
      rw [cell_of_row _ _ _ _ _ _ hb, ← fC_get A k hk j hj, ← ht, List.getElem?_take_of_lt (by omega)]
      simp
    exact ⟨hc 0 (by omega), hc 1 (by omega)⟩
theorem file_form {w : World} {B : Nat} {v : Value} {A : List (Bs × Bs)} (h : w.ownsRow B 50 2 v A.length (fC A)) : (A = [] ∧ ∃ ad cap, v = .slice ad 0 cap) ∨ ∃ g cap, v = .slice (some ⟨g, 0, none⟩) A.length cap := by
  rcases h.2 with ⟨e, h0⟩ | ⟨g, cap, cur, e, _⟩
  · exact .inl ⟨List.length_eq_zero_iff.1 h0, none, 0, e⟩
  · exact .inr ⟨g, cap, e⟩

set_option maxRecDepth 100000 in
set_option maxHeartbeats 2000000 in
theorem same_true (A : List (Bs × Bs)) (B1 B2 : Nat) (v1 v2 : Value) (w : World) (h1 : w.ownsRow B1 50 2 v1 A.length (fC A)) (h2 : w.ownsRow B2 50 2 v2 A.length (fC A)) (hl : A.length ≤ 70368744177) :
    Calls Try.prog 24 #[v1, v2] w fun e w' => e = .returned (.bool true) ∧ Keep (fun _ => False) w w' := by
  obtain ⟨a1, n1, hv1⟩ : ∃ ad cap, v1 = .slice ad A.length cap := by
    rcases h1.2 with ⟨e, h0⟩ | ⟨g, cap, cur, e, _⟩
    · exact ⟨none, 0, by rw [e, h0]⟩
    · exact ⟨_, _, e⟩
  obtain ⟨a2, n2, hv2⟩ : ∃ ad cap, v2 = .slice ad A.length cap := by
    rcases h2.2 with ⟨e, h0⟩ | ⟨g, cap, cur, e, _⟩
    · exact ⟨none, 0, by rw [e, h0]⟩
    · exact ⟨_, _, e⟩
  have HC : Hid (∀ (k : Nat) (hk : k < A.length) (W : World), Keep (fun _ => False) w W → ∃ g1 g2 x y, a1 = some ⟨g1, 0, none⟩ ∧ a2 = some ⟨g2, 0, none⟩ ∧ W.cell? ⟨g1, k * 2, none⟩ = some (.string x) ∧ W.cell? ⟨g1, k * 2 + 1, none⟩ = some (.string y) ∧ W.cell? ⟨g2, k * 2, none⟩ = some (.string x) ∧ W.cell? ⟨g2, k * 2 + 1, none⟩ = some (.string y)) := by
    intro k hk W hW
    have hb1 := hW.ownsRow h1 (fun _ _ h => h)
    have hb2 := hW.ownsRow h2 (fun _ _ h => h)
    rcases file_form hb1 with ⟨e, _⟩ | ⟨g1, c1, e1⟩
    · rw [e] at hk; simp at hk
    rcases file_form hb2 with ⟨e, _⟩ | ⟨g2, c2, e2⟩
    · rw [e] at hk; simp at hk
    rw [e1] at hb1
    rw [e2] at hb2
    have hc1 := file_cell hb1 hk
    have hc2 := file_cell hb2 hk
    rw [hv1] at e1
    rw [hv2] at e2
    injection e1 with e1
    injection e2 with e2
    exact ⟨g1, g2, _, _, e1, e2, hc1.1, hc1.2, hc2.1, hc2.2⟩
  clear h1 h2
  subst hv1 hv2
  generalize A.length = n at *
  have hne : ((n : Int) != (n : Int)) = false := by simp
  go_enter Try.func24, Try.ntmps24
  go_wp2
  go_loopw [5] (fun i wr => ∃ k : Nat, k ≤ n ∧ i = .int .i64 k ∧ Hid (Keep (fun _ => False) w wr)) (fun i _ => n - (intOf i).toNat)
  case atStart => exact ⟨0, by omega, rfl, Keep.refl _ _⟩
  case round =>
    obtain ⟨k, hk, rfl, HK⟩ := hrel
    by_cases hlt : k < n
    · have hk0 : (0 : Int) ≤ (k : Int) := by omega
      have hk1 : (k : Int) < (n : Int) := by omega
      obtain ⟨g1, g2, x, y, e1, e2, p1, p2, q1, q2⟩ := HC.out k hlt wr HK.out
      subst e1 e2
      have hxx := tl_self x
      have hyy := tl_self y
      clear HC
      go_wp2
      go_quiet (fail)
      have HK2 := hid (HK.out.trans (keep_drewN wr nq))
      clear HK
      go_wp2
      exact ⟨⟨k + 1, by omega, by go_num, HK2⟩, by simp [intOf]; omega⟩
    · have hd : decide ((k : Int) < (n : Int)) = false := decide_eq_false (by omega)
      clear HC
      go_wp2
      go_ret
      exact ⟨rfl, HK.out⟩

/-- an act, as far as the laws read it -/
structure AC where
  kind : Int
  name : Bs
  to : Bs
  s : Bs
  n : Int
  f0 : Int
  f1 : Int
  f2 : Int
  pv : Value
def acV (a : AC) : Value := .agg #[.int .i64 a.kind, .string (tx a.name), .string (tx a.to), .string (tx a.s), .int .i64 a.n, .int .i64 a.f0, .int .i64 a.f1, .int .i64 a.f2, a.pv]
/-- what a call as an act says makes of a disk, and what is told -/
def calD (d : Ds) (a : AC) : Ds × Int := if a.kind = 0 then appD d a.name a.s else if a.kind = 1 then wrD d a.name a.s else if a.kind = 2 then mvD d a.name a.to else if a.kind = 3 then rmD d a.name else cuD d a.name a.n
theorem Calls.into {w W : World} {c : Nat → Nat} {p : Nat} {d d' : Ds} {f : FuncId} {args : Array Value} {r : Value} (k : Keep (fun _ => False) w W) (C : Calls Try.prog f args W fun e w' => e = .returned r ∧ Left W c p d' w') : Calls Try.prog f args W fun e w' => e = .returned r ∧ Left w c p d' w' :=
  Calls.mono C fun e w' ⟨he, hL⟩ => ⟨he, hL.from k⟩

set_option maxRecDepth 100000 in
set_option maxHeartbeats 2000000 in
theorem call_any (p : Nat) (c : Nat → Nat) (d : Ds) (a : AC) (w : World) (h : DiskIs w c p d) (hpv : ∃ ad n cp, a.pv = .slice ad n cp) (hM : d.wt + d.S.length + d.ws.length + a.s.length + a.name.length + a.to.length ≤ 70368744177) (hn : d.n ≤ 1152921504606846976) :
    Calls Try.prog 22 #[.pointer (some ⟨p, 0, none⟩), acV a] w fun e w' => e = .returned (.int .i64 (calD d a).2) ∧ Left w c p (calD d a).1 w' := by
  obtain ⟨kind, name, to, s, n, f0, f1, f2, pv⟩ := a
  obtain ⟨ad, m, cp, hpv⟩ := hpv
  simp only at hpv hM
  subst hpv
  unfold acV
  simp only
  have kA := keep_alloc (fun _ => False) w (.cells #[.int .i64 kind, .string (tx name), .string (tx to), .string (tx s), .int .i64 n, .int .i64 f0, .int .i64 f1, .int .i64 f2, .slice ad m cp] 38)
  have hD := h.keep kA (c' := c) (fun _ _ => rfl) (fun _ _ h => h.elim)
  have C0 := hid (Calls.into (d := d) kA (append_any p c d name s _ hD (by omega) hn))
  have C1 := hid (Calls.into (d := d) kA (write_any p c d name s _ hD (by omega) hn))
  have C2 := hid (Calls.into (d := d) kA (move_any p c d name to _ hD (by omega) hn))
  have C3 := hid (Calls.into (d := d) kA (remove_any p c d name _ hD (by omega) hn))
  have C4 := hid (Calls.into (d := d) kA (cut_any p c d name n _ hD (by omega) hn))
  clear kA hD h hM hn
  by_cases k0 : kind = 0
  · subst k0
    have HE : Hid (calD d ⟨0, name, to, s, n, f0, f1, f2, .slice ad m cp⟩ = appD d name s) := by show _ = _; unfold calD; simp
    rw [HE.out]
    clear HE C1 C2 C3 C4
    go_enter Try.func22, Try.ntmps22
    go_wp2_with fail
    refine C0.out.mono ?_
    rintro e w2 ⟨rfl, hL⟩
    have HL := hid hL
    clear C0 hL
    go_wp2
    go_ret
    exact ⟨rfl, HL.out⟩
  have b0 : (kind == 0) = false := by rw [beq_eq_false_iff_ne]; exact k0
  by_cases k1 : kind = 1
  · subst k1
    have HE : Hid (calD d ⟨1, name, to, s, n, f0, f1, f2, .slice ad m cp⟩ = wrD d name s) := by show _ = _; unfold calD; simp
    rw [HE.out]
    clear HE C0 C2 C3 C4 b0 k0
    go_enter Try.func22, Try.ntmps22
    go_wp2_with fail
    refine C1.out.mono ?_
    rintro e w2 ⟨rfl, hL⟩
    have HL := hid hL
    clear C1 hL
    go_wp2
    go_ret
    exact ⟨rfl, HL.out⟩
  have b1 : (kind == 1) = false := by rw [beq_eq_false_iff_ne]; exact k1
  by_cases k2 : kind = 2
  · subst k2
    have HE : Hid (calD d ⟨2, name, to, s, n, f0, f1, f2, .slice ad m cp⟩ = mvD d name to) := by show _ = _; unfold calD; simp
    rw [HE.out]
    clear HE C0 C1 C3 C4 b0 k0 b1 k1
    go_enter Try.func22, Try.ntmps22
    go_wp2_with fail
    refine C2.out.mono ?_
    rintro e w2 ⟨rfl, hL⟩
    have HL := hid hL
    clear C2 hL
    go_wp2
    go_ret
    exact ⟨rfl, HL.out⟩
  have b2 : (kind == 2) = false := by rw [beq_eq_false_iff_ne]; exact k2
  by_cases k3 : kind = 3
  · subst k3
    have HE : Hid (calD d ⟨3, name, to, s, n, f0, f1, f2, .slice ad m cp⟩ = rmD d name) := by show _ = _; unfold calD; simp
    rw [HE.out]
    clear HE C0 C1 C2 C4 b0 k0 b1 k1 b2 k2
    go_enter Try.func22, Try.ntmps22
    go_wp2_with fail
    refine C3.out.mono ?_
    rintro e w2 ⟨rfl, hL⟩
    have HL := hid hL
    clear C3 hL
    go_wp2
    go_ret
    exact ⟨rfl, HL.out⟩
  have b3 : (kind == 3) = false := by rw [beq_eq_false_iff_ne]; exact k3
  have HE : Hid (calD d ⟨kind, name, to, s, n, f0, f1, f2, .slice ad m cp⟩ = cuD d name n) := by show _ = _; unfold calD; simp [k0, k1, k2, k3]
  rw [HE.out]
  clear HE C0 C1 C2 C3 k0 k1 k2 k3
  go_enter Try.func22, Try.ntmps22
  go_wp2_with fail
  refine C4.out.mono ?_
  rintro e w2 ⟨rfl, hL⟩
  have HL := hid hL
  clear C4 hL
  go_wp2
  go_ret
  exact ⟨rfl, HL.out⟩
end Go.Proofs.Ytnlodlpjokkepab
