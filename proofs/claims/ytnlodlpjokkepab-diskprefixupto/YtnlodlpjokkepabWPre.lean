/- The walk of the law DiskPrefix. -/
import Derived.Test.YtnlodlpjokkepabPreM
namespace Go.Proofs.Ytnlodlpjokkepab
open Go.RowKit Go.Maps
set_option linter.unusedVariables false
set_option linter.unusedSimpArgs false

theorem MayAt.call {w1 wr : World} {p : Nat} {d : Ds} {hs : List (List (Bs × Bs))} {m : Value} {k B : Nat} (h : MayAt w1 p d hs m wr) (hR : CI d k B) (a : AC) (ha : ActOk a) (hk : k ≤ 100) (hB : B ≤ 70000000000) :
    Calls Try.prog 22 #[.pointer (some ⟨p, 0, none⟩), acV a] wr fun e w3 => e = .returned (.int .i64 (calD d a).2) ∧ MayAt w1 p (calD d a).1 hs m w3 := by
  have h1 := ha.s
  have h2 := ha.name
  have h3 := ha.to
  have h4 := hR.wt
  have h5 := hR.n
  obtain ⟨vs, c, hM⟩ := h
  exact (call_any p c d a wr hM.disk ha.pv (by omega) (by omega)).mono fun e w' ⟨he, hL⟩ => ⟨he, hM.left hL⟩
theorem MayAt.keep {w1 wr : World} {p : Nat} {d : Ds} {hs : List (List (Bs × Bs))} {m : Value} (h : MayAt w1 p d hs m wr) : Keep (fun j => c0 p j < 7) w1 wr := by
  obtain ⟨vs, c, hM⟩ := h; exact hM.keep
theorem MayAt.ok {w1 wr : World} {p : Nat} {d : Ds} {hs : List (List (Bs × Bs))} {m : Value} (h : MayAt w1 p d hs m wr) : Srt d.S ∧ ∀ ch ∈ d.ws, ch.kind = 2 → ch.to ≠ ch.name := by
  obtain ⟨vs, c, hM⟩ := h; exact hM.disk.ok
theorem MayAt.form {w1 wr : World} {p : Nat} {d : Ds} {hs : List (List (Bs × Bs))} {m : Value} (h : MayAt w1 p d hs m wr) : ∃ ad cap, m = .slice ad hs.length cap := by
  obtain ⟨vs, c, hM⟩ := h; exact row_form hM.row
/-- the loop's state -/
def PreI (w1 : World) (p : Nat) (ad : Option Addr) (n cp : Nat) (k : Nat) (wr : World) : Prop := ∃ d hs, n = hs.length ∧ MayAt w1 p d hs (.slice ad n cp) wr ∧ CI d (30 + k) ((30 + k) * 1048577) ∧ Hist d hs
theorem PreI.next {w1 wr : World} {p : Nat} {ad : Option Addr} {n cp k : Nat} (h : PreI w1 p ad n cp k wr) : PreI w1 p ad n cp (k + 1) wr := by
  obtain ⟨d, hs, h1, h2, h3, h4⟩ := h
  exact ⟨d, hs, h1, h2, h3.mono (by omega) (by omega), h4⟩
theorem PreI.keep {w1 wr : World} {p : Nat} {ad : Option Addr} {n cp k : Nat} (h : PreI w1 p ad n cp k wr) : Keep (fun j => c0 p j < 7) w1 wr := by
  obtain ⟨d, hs, h1, h2, h3, h4⟩ := h; exact h2.keep
/-- a call, and what comes of it -/
theorem pre_call {w1 wr : World} {p : Nat} {ad : Option Addr} {n cp k : Nat} (h : PreI w1 p ad n cp k wr) (hk : k < 20) (a : AC) (ha : ActOk a) :
    ∃ code : Int, Calls Try.prog 22 #[.pointer (some ⟨p, 0, none⟩), acV a] wr fun e w3 => e = .returned (.int .i64 code) ∧ (code ≠ 0 → PreI w1 p ad n cp (k + 1) w3) ∧
      (code = 0 → Calls Try.prog 16 #[.pointer (some ⟨p, 0, none⟩)] w3 fun e w4 => ∃ ad2 n2 cp2, e = .returned (.slice ad2 n2 cp2) ∧ n ≤ 70368744177 ∧ w1.heap.size ≤ w4.heap.size ∧ ∃ vs, w4.ownsRow w1.heap.size 26 1 (.slice ad n cp) n vs ∧
        ∀ ad3 cp3 w5, w5.ownsRow w1.heap.size 26 1 (.slice ad3 (n + 1) cp3) (n + 1) (vs ++ [.slice ad2 n2 cp2]) → Keep (fun k => (Value.slice ad n cp).ownBlock = some k) w4 w5 → ((Value.slice ad3 (n + 1) cp3).ownBlock = (Value.slice ad n cp).ownBlock ∨ ∃ g, (Value.slice ad3 (n + 1) cp3).ownBlock = some g ∧ w4.heap.size ≤ g) → PreI w1 p ad3 (n + 1) cp3 (k + 1) w5) := by
  obtain ⟨d, hs, rfl, hM, hC, hH⟩ := h
  have hs1 := ha.s
  have hC2 := (hC.call a).mono (k' := 30 + (k + 1)) (B' := (30 + (k + 1)) * 1048577) (by omega) (by omega)
  refine ⟨(calD d a).2, (hM.call hC a ha (by omega) (by omega)).mono fun e w3 ⟨he, hM3⟩ => ⟨he, fun hne => ?_, fun h0 => ?_⟩⟩
  · rcases hH.next hC a with ⟨_, e⟩ | ⟨e, _⟩
    · rw [e] at hM3
      exact ⟨d, hs, rfl, hM3, hC.mono (by omega) (by omega), hH⟩
    · exact absurd e hne
  · rcases hH.next hC a with ⟨e, _⟩ | ⟨_, hH2⟩
    · exact absurd h0 e
    · refine (hM3.files hC2 (by omega)).mono fun e w4 ⟨ad2, cp2, he2, vs, c, hMC, hv, hvc⟩ => ⟨ad2, _, cp2, he2, ?_, hMC.keep.size, vs, hMC.row, fun ad3 cp3 w5 hr hk5 hloc => ⟨_, _, ?_, may_app hMC hv hvc hr hk5 hloc, hC2, hH2⟩⟩
      · have h1 := hH.len
        have h2 := hC.wt
        omega
      · simp
/-- behind the loop -/
theorem pre_end {w1 wr : World} {p : Nat} {ad : Option Addr} {n cp k : Nat} (h : PreI w1 p ad n cp k wr) (hk : k ≤ 20) (keep : Int) :
    ∃ q : Nat, n = q + 1 ∧ q ≤ 70368744177 ∧ (Calls Try.prog 23 #[.pointer (some ⟨p, 0, none⟩)] wr fun e w' => e = .returned (.int .i64 (q : Int)) ∧ w' = wr) ∧
      Calls Try.prog 18 #[.pointer (some ⟨p, 0, none⟩), .int .i64 keep, .int .i64 0] wr fun e w2 => e = .returned (.tuple #[]) ∧
        Calls Try.prog 19 #[.pointer (some ⟨p, 0, none⟩)] w2 fun e w3 => e = .returned (.bool true) ∧ Keep (fun j => c0 p j < 7) w1 w3 ∧ ∃ g v, ad = some ⟨g, 0, none⟩ ∧ (∃ ad' n' cp', v = .slice ad' n' cp') ∧ w3.cell? ⟨g, min keep.toNat q, none⟩ = some v ∧
          ∀ W, Keep (fun _ => False) w3 W → Calls Try.prog 16 #[.pointer (some ⟨p, 0, none⟩)] W fun e w4 => ∃ ad2 n2 cp2, e = .returned (.slice ad2 n2 cp2) ∧ w4.cell? ⟨g, min keep.toNat q, none⟩ = some v ∧
            ∀ W, Keep (fun _ => False) w4 W → Calls Try.prog 24 #[.slice ad2 n2 cp2, v] W fun e w5 => e = .returned (.bool true) ∧ Keep (fun j => c0 p j < 7) w1 w5 ∧ w5.cell? ⟨g, min keep.toNat q, none⟩ = some v := by
  obtain ⟨d, hs, rfl, hM, hC, hH⟩ := h
  have hok := hM.ok
  obtain ⟨hCU, hi, hnow⟩ := pre_up hH hC hok.1 hok.2 keep
  have hwt := hC.wt
  have hlen := hH.len
  have e : (failD d keep 0).dn = true := by unfold failD; rw [if_neg (by rw [hC.calm.dn]; decide)]
  refine ⟨d.ws.length, hlen, by omega, ?_, (hM.step (fun W c h => fail_any p c d keep 0 W h (by omega))).mono fun e2 w2 ⟨he2, hM2⟩ => ⟨he2, (hM2.step (d' := upD d keep 0) (r := .bool true) (fun W c h => ?_)).mono fun e3 w3 ⟨he3, hM3⟩ => ⟨he3, hM3.keep, ?_⟩⟩⟩
  · obtain ⟨vs, c, hMC⟩ := hM
    exact waits_any p c d wr hMC.disk
  · have := up_any p c _ W h
    rw [e] at this
    exact this
  · obtain ⟨vs, c, hMC⟩ := hM3
    have hvl := hMC.len
    have hiv : keepN d keep < vs.length := by omega
    have hcell : ∀ W, Keep (fun _ => False) w3 W → ∃ g, ad = some ⟨g, 0, none⟩ ∧ W.cell? ⟨g, keepN d keep, none⟩ = some vs[keepN d keep] := by
      intro W hW
      have hr := hW.ownsRow hMC.row (fun _ _ h => h)
      rcases hr.2 with ⟨_, h0⟩ | ⟨g, cap, cur, e, _, hb, _, _, hcs, ht⟩
      · omega
      · injection e with e1
        refine ⟨g, e1, ?_⟩
        rw [cell_of_row _ _ _ _ _ _ hb]
        have : vs[keepN d keep]? = some vs[keepN d keep] := List.getElem?_eq_getElem hiv
        rw [← this, ← ht, List.getElem?_take_of_lt (by omega)]
        simp
    obtain ⟨g, hg, hc3⟩ := hcell w3 (Keep.refl _ _)
    have hrow := hMC.rows _ hi hiv
    refine ⟨g, vs[keepN d keep], hg, ?_, hc3, fun W hW => ?_⟩
    · obtain ⟨a1, a2, a3⟩ := row_form hrow
      exact ⟨a1, _, a2, a3⟩
    · have hMW : MayAt w1 p (upD d keep 0) hs (.slice ad hs.length cp) W := ⟨vs, c, hMC.same hW (fun _ _ => rfl)⟩
      have hMW2 := hMC.same (c2 := c) hW (fun _ _ => rfl)
      have hl := hCU.len hMC.disk
      refine (files_any p c _ W hMW2.disk hCU.calm.dn (by omega) hCU.calm.nm hMW2.disk.srt).mono fun e4 w4 ⟨v4, he4, hr4, hk4⟩ => ?_
      obtain ⟨ad2, cp2, rfl⟩ := row_form hr4
      refine ⟨ad2, _, cp2, he4, ?_, fun W2 hW2 => ?_⟩
      · obtain ⟨g', hg', hc'⟩ := hcell w4 (hW.trans hk4)
        rw [hg] at hg'
        injection hg' with e; injection e with e
        subst e
        exact hc'
      · have hrv : FileRow W2 w1.heap.size vs[keepN d keep] hs[keepN d keep] := ((hW.trans hk4).trans hW2).ownsRow hrow (fun _ _ h => h)
        have hr4' := hW2.ownsRow hr4 (fun _ _ h => h)
        rw [← hnow] at hrv
        exact (same_true _ _ _ _ _ W2 hr4' hrv (by omega)).mono fun e5 w5 ⟨he5, hk5⟩ => ⟨he5, (hMC.keep.then (((hW.trans hk4).trans hW2).trans hk5) (fun _ _ h => h.elim)), by
          obtain ⟨g', hg', hc'⟩ := hcell w5 (((hW.trans hk4).trans hW2).trans hk5)
          rw [hg] at hg'
          injection hg' with e; injection e with e
          subst e
          exact hc'⟩
end Go.Proofs.Ytnlodlpjokkepab
