/- The walk of the law DiskRoom. -/
import Derived.Test.YtnlodlpjokkepabRoomM
import Derived.Test.YtnlodlpjokkepabWMov
namespace Go.Proofs.Ytnlodlpjokkepab
open Go.RowKit Go.Maps
set_option linter.unusedVariables false
set_option linter.unusedSimpArgs false

/-- an act's cells -/
def acC (a : AC) : List Value := [.int .i64 a.kind, .string (tx a.name), .string (tx a.to), .string (tx a.s), .int .i64 a.n, .int .i64 a.f0, .int .i64 a.f1, .int .i64 a.f2, a.pv]
/-- acts that are handed in -/
def ActsIn (w : World) (v : Value) (l : List AC) : Prop := (∃ ad cap, v = .slice ad 0 cap ∧ l = []) ∨ ∃ g off cap, v = .slice (some ⟨g, off, none⟩) l.length cap ∧ g < w.heap.size ∧ ∀ j (h : j < l.length) i, i < 9 → w.cell? ⟨g, off + j * 9 + i, none⟩ = (acC l[j])[i]?
structure ActOk (a : AC) : Prop where
  s : a.s.length ≤ 1048576
  name : a.name.length ≤ 1048576
  to : a.to.length ≤ 1048576
  pv : ∃ ad n cp, a.pv = .slice ad n cp
theorem RI.mono {d : Ds} {r : Int} {k B : Nat} (h : RI d r k B) (k' B' : Nat) (hk : k ≤ k') (hB : B ≤ B') : RI d r k' B' := ⟨h.calm, h.bd, h.rm, h.fit, h.S, Nat.le_trans h.len hk, Nat.le_trans h.sum hB, Nat.le_trans h.n hk⟩
theorem room_val (a : Int) : ∃ t : Int, (wrap64 (a.tmod 64 + 64)).tmod 64 = t ∧ 0 ≤ t := by
  refine ⟨_, rfl, ?_⟩
  have h1 : -64 < a.tmod 64 ∧ a.tmod 64 < 64 := by
    have h2 := Int.natAbs_tmod a 64
    have h3 : (a.tmod 64).natAbs < 64 := by rw [h2]; exact Nat.mod_lt _ (by decide)
    omega
  have e1 : wrap64 (a.tmod 64 + 64) = a.tmod 64 + 64 := IntWalk.wrap64_in _ (by omega)
  rw [e1, Int.tmod_eq_emod_of_nonneg (by omega)]
  omega

/-- what one round has: all files, the call, all files again -/
theorem room_round {w1 wr : World} {c : Nat → Nat} {p : Nat} {d : Ds} {r : Int} {k B : Nat} (hL : Left w1 c p d wr) (hR : RI d r k B) (a : AC) (ha : ActOk a) (hk : k ≤ 40) (hB : B ≤ 41943040) :
    Calls Try.prog 16 #[.pointer (some ⟨p, 0, none⟩)] wr fun e w2 => ∃ v1, e = .returned v1 ∧ Left w1 c p d w2 ∧
      Calls Try.prog 22 #[.pointer (some ⟨p, 0, none⟩), acV a] w2 fun e w3 => e = .returned (.int .i64 (calD d a).2) ∧ Left w1 c p (calD d a).1 w3 ∧
        (Calls Try.prog 30 #[.pointer (some ⟨p, 0, none⟩)] w3 fun e w4 => e = .returned (.int .i64 (tot (calD d a).1.now)) ∧ w4 = w3) ∧
        ((calD d a).2 ≠ 0 → Calls Try.prog 16 #[.pointer (some ⟨p, 0, none⟩)] w3 fun e w4 => ∃ v2, e = .returned v2 ∧ Left w1 c p (calD d a).1 w4 ∧
          Calls Try.prog 24 #[v2, v1] w4 fun e w5 => e = .returned (.bool true) ∧ Left w1 c p (calD d a).1 w5) := by
  obtain ⟨⟨ci, D, hc⟩, K⟩ := hL
  have hwt := hR.wt
  have htl := D.tot_le
  have hS := hR.S
  have hlen := hR.len
  have hl : d.now.length ≤ 70368744177 := by rw [hS] at htl; simp at htl; omega
  have hsr := D.srt
  obtain ⟨hR2, hsame⟩ := hR.next hsr a ha.s
  have hmono : ∀ {w' : World}, Left wr ci p d w' → Left w1 c p d w' := fun h => h.trans hc K
  refine (files_any p ci d wr D hR.calm.dn hl hR.calm.nm hsr).mono fun e w2 ⟨v1, he, hr1, hk2⟩ => ⟨v1, he, (left_same D hk2).trans hc K, ?_⟩
  let c2 : Nat → Nat := fun j => if j < wr.heap.size then ci j else 7
  have hD2 : DiskIs w2 c2 p d := D.keep hk2 (fun j hj => if_pos hj) (fun _ _ h => h.elim)
  have hs2 := hk2.size
  refine (call_any p c2 d a w2 hD2 ha.pv (by have h1 := ha.s; have h2 := ha.name; have h3 := ha.to; omega) (by have := hR.n; omega)).mono fun e w3 ⟨he, ⟨⟨c3, D3, hc3⟩, K3⟩⟩ => ⟨he, ?_, ?_, ?_⟩
  · have h3 : Left wr ci p (calD d a).1 w3 := by
      refine ⟨⟨c3, D3, fun j hj => ?_⟩, (hk2.mono (fun _ _ h => h.elim)).then K3 fun j hj e => ?_⟩
      · rw [hc3 j (by omega)]; exact if_pos hj
      · have e' : (if j < wr.heap.size then ci j else 7) < 7 := e
        rw [if_pos hj] at e'
        exact e'
    exact h3.trans hc K
  · exact used_up p c3 _ w3 D3 hR2.calm.dn
  · intro hne
    have hdd := hsame hne
    have h3 : Left wr ci p (calD d a).1 w3 := by
      refine ⟨⟨c3, D3, fun j hj => ?_⟩, (hk2.mono (fun _ _ h => h.elim)).then K3 fun j hj e => ?_⟩
      · rw [hc3 j (by omega)]; exact if_pos hj
      · have e' : (if j < wr.heap.size then ci j else 7) < 7 := e
        rw [if_pos hj] at e'
        exact e'
    rw [hdd] at D3 h3 ⊢
    refine (files_any p c3 d w3 D3 hR.calm.dn hl hR.calm.nm hsr).mono fun e w4 ⟨v2, he, hr2, hk4⟩ => ⟨v2, he, ?_, ?_⟩
    · obtain ⟨⟨c5, D5, hc5⟩, K5⟩ := h3.trans hc K
      exact (left_same D5 hk4).trans hc5 K5
    · have hr1' : w4.ownsRow wr.heap.size 50 2 v1 d.now.length (fC d.now) := hk4.ownsRow (K3.ownsRow hr1 fun g e e2 => by
        have e' : (if g < wr.heap.size then ci g else 7) < 7 := e2
        rcases hr1.2 with ⟨e3, _⟩ | ⟨g', cap, cur, e3, hg', _⟩
        · rw [e3] at e; simp [Value.ownBlock] at e
        · rw [e3] at e; simp [Value.ownBlock] at e
          rw [if_neg (by omega)] at e'
          omega) (fun _ _ h => h)
      refine (same_true d.now _ _ v2 v1 w4 hr2 hr1' hl).mono fun e w5 ⟨he, hk5⟩ => ⟨he, ?_⟩
      obtain ⟨⟨c5, D5, hc5⟩, K5⟩ := h3.trans hc K
      exact (left_same D5 (hk4.trans hk5)).trans hc5 K5

theorem acts_cells {w W : World} {p : Nat} {d : Ds} {ad : Option Addr} {n cap : Nat} {l : List AC} (h : ActsIn w (.slice ad n cap) l) (k : Keep (fun j => c0 p j < 7) w W) (hp : w.heap.size ≤ p) (j : Nat) (hj : j < l.length) : ∃ g off, ad = some ⟨g, off, none⟩ ∧ ∀ i, i < 9 → W.cell? ⟨g, off + j * 9 + i, none⟩ = (acC l[j])[i]? := by
  rcases h with ⟨_, _, _, e⟩ | ⟨g, off, cap', e, hg, hc⟩
  · rw [e] at hj; simp at hj
  · injection e with e1 e2 e3
    refine ⟨g, off, e1, fun i hi => (k.cell hg fun e => ?_).trans (hc j hj i hi)⟩
    have e' : (if g = p then 0 else 7) < 7 := e
    rw [if_neg (by omega)] at e'
    omega

set_option maxRecDepth 100000 in
set_option maxHeartbeats 4000000 in
theorem diskRoom_core (v : Value) (l : List AC) (room : Int) (w : World) (hv : ActsIn w v l) (hok : ∀ a ∈ l, ActOk a) (hlen : l.length ≤ 70368744177) :
    Calls Try.prog 7 #[v, .int .i64 room] w fun e w' => e = .returned (.bool true) ∧ Below w.heap.size w w' := by
  obtain ⟨ad, cap, rfl⟩ : ∃ ad cap, v = .slice ad l.length cap := by
    rcases hv with ⟨ad, cap, e, e2⟩ | ⟨g, off, cap, e, _⟩
    · exact ⟨ad, cap, by rw [e, e2]; rfl⟩
    · exact ⟨_, _, e⟩
  obtain ⟨rm, hrm, hrm0⟩ := room_val room
  have NW := hid (fun W : World => new_any W)
  have AW := hid (fun W : World => awake4 W)
  have HV := hid hv
  have HOK := hid hok
  have HRM := hid hrm0
  have C1 : Hid (∀ p W c, DiskIs W c p d0 → Calls Try.prog 29 #[.pointer (some ⟨p, 0, none⟩), .int .i64 rm] W fun e w' => e = .returned (.tuple #[]) ∧ Left W c p { d0 with bd := decide (0 ≤ rm), rm := rm } w') := fun p W c h => room_any p c d0 rm W h
  have RI0 : Hid (RI { d0 with bd := decide (0 ≤ rm), rm := rm } rm 0 (0 * 1048576)) := ⟨⟨rfl, rfl, fun x hx => by cases hx⟩, decide_eq_true hrm0, rfl, hrm0, rfl, Nat.le_refl _, Nat.zero_le _, Nat.le_refl _⟩
  clear hv hok hrm0
  go_enter Try.func7, Try.ntmps7
  go_wp2_with fail
  refine (NW.out w).mono ?_
  rintro e w1 ⟨rfl, hD, hk⟩
  generalize hpp : w.heap.size = p at hD ⊢
  have HP : Hid (w.heap.size = p) := hpp
  have HK1 := hid hk
  have HL0 := hid (left_same hD (Keep.refl _ w1))
  clear NW hD hk
  go_wp2_with fail
  refine (AW.out _).mono ?_
  rintro e w2 ⟨rfl, hb⟩
  have HL1 := hid (show Left w1 (c0 p) p d0 w2 from (by
    obtain ⟨⟨ci, D, hc⟩, K⟩ := HL0.out
    exact (left_same D (hb.keep _)).trans hc K))
  clear AW hb HL0
  go_wp2_with fail
  refine (step_left HL1.out (C1.out p)).mono ?_
  rintro e w3 ⟨rfl, hL⟩
  have HL2 := hid hL
  clear hL HL1 C1 hrm
  generalize ({ d0 with bd := decide (0 ≤ rm), rm := rm } : Ds) = dA at *
  go_wp2
  go_loopw [6] (fun i wr => ∃ k : Nat, k ≤ l.length ∧ k ≤ 40 ∧ i = .int .i64 k ∧ Hid (∃ d, Left w1 (c0 p) p d wr ∧ RI d rm k (k * 1048576))) (fun i _ => l.length - (intOf i).toNat)
  case atStart => exact ⟨0, by omega, by omega, rfl, ⟨dA, HL2.out, RI0.out⟩⟩
  case round =>
    clear HL2 RI0
    obtain ⟨k, hk, hk40, rfl, HX⟩ := hrel
    have HBE : Hid (∀ w', (∃ d, Left w1 (c0 p) p d w') → Below w.heap.size w w') := fun w' ⟨d, h⟩ => mov_below (Keep.refl _ w) HK1.out h (Keep.refl _ _) (by have := HP.out; omega)
    by_cases hlt : k < l.length
    · have hk0 : (0 : Int) ≤ (k : Int) := by omega
      have hk1 : (k : Int) < (l.length : Int) := by omega
      by_cases hlt2 : k < 40
      · have hk2 : (k : Int) < 40 := by omega
        obtain ⟨d, hL, hR⟩ := HX.out
        have HL := hid hL
        have HR := hid hR
        have HA := hid (HOK.out l[k] (List.getElem_mem hlt))
        have hKB : Keep (fun j => c0 p j < 7) w wr := (HK1.out.mono (fun _ _ h => h.elim)).trans hL.2
        obtain ⟨g, off, hg, hcl⟩ := acts_cells (p := p) (d := d) HV.out hKB (by have := HP.out; omega) k hlt
        have RN := hid (RI.mono hR (k + 1) ((k + 1) * 1048576) (by omega) (by omega))
        have HCL : Hid (∀ W, Left w1 (c0 p) p d W → ∀ i, i < 9 → W.cell? ⟨g, off + k * 9 + i, none⟩ = (acC l[k])[i]?) := by
          intro W hW i hi
          obtain ⟨g', off', hg', hcl'⟩ := acts_cells (p := p) (d := d) HV.out ((HK1.out.mono (fun _ _ h => h.elim)).trans hW.2) (by have := HP.out; omega) k hlt
          rw [hg] at hg'
          injection hg' with e
          injection e with e1 e2
          subst e1 e2
          exact hcl' i hi
        have hsr : Srt d.now := by obtain ⟨⟨ci, D, _⟩, _⟩ := hL; exact D.srt
        have RX := hid (RI.mono (hR.next hsr l[k] HA.out.s).1 (k + 1) ((k + 1) * 1048576) (Nat.le_refl _) (by omega))
        have RR := hid (room_round hL hR l[k] HA.out hk40 (by omega))
        clear hL hR HX hKB HOK HV HBE hsr
        generalize l[k] = a at *
        have q0 := hcl 0 (by omega)
        simp only [acC, List.getElem?_cons_zero, Nat.add_zero] at q0
        subst hg
        by_cases hneg : a.kind < 0
        · clear hcl HA HR HCL RX RR
          go_wp2
          exact ⟨⟨k + 1, by omega, by omega, by go_num, ⟨d, HL.out, RN.out⟩⟩, by simp [intOf]; omega⟩
        · have hneg' : decide (a.kind < 0) = false := decide_eq_false hneg
          by_cases hbig : 4 < a.kind
          · clear hcl HA HR HCL RX RR
            go_wp2
            exact ⟨⟨k + 1, by omega, by omega, by go_num, ⟨d, HL.out, RN.out⟩⟩, by simp [intOf]; omega⟩
          · have hbig' : decide (4 < a.kind) = false := decide_eq_false hbig
            have hfit := RX.out.fit
            obtain ⟨ad2, n2, cp2, hpv⟩ := HA.out.pv
            unfold acV at RR
            rw [hpv] at RR
            clear hcl HA HR RN HL
            generalize hcd : calD d a = cr at *
            clear hcd
            obtain ⟨d2, code⟩ := cr
            simp only at RR RX hfit
            generalize htt : tot d2.now = tt at *
            clear htt
            have hd3 : decide (rm < (tt : Int)) = false := decide_eq_false (by omega)
            go_wp2_with fail
            refine RR.out.mono ?_
            rintro e w4 ⟨v1, rfl, hL4, hC⟩
            have hcl4 := HCL.out w4 hL4
            have r0 := hcl4 0 (by omega)
            have r1 := hcl4 1 (by omega)
            have r2 := hcl4 2 (by omega)
            have r3 := hcl4 3 (by omega)
            have r4 := hcl4 4 (by omega)
            have r5 := hcl4 5 (by omega)
            have r6 := hcl4 6 (by omega)
            have r7 := hcl4 7 (by omega)
            have r8 := hcl4 8 (by omega)
            simp only [acC, List.getElem?_cons_zero, List.getElem?_cons_succ, Nat.add_zero] at r0 r1 r2 r3 r4 r5 r6 r7 r8
            rw [hpv] at r8
            have HC := hid hC
            clear RR hcl4 HCL hL4 hC q0 hpv
            go_wp2_with fail
            refine HC.out.mono ?_
            rintro e w5 ⟨rfl, hL5, hU, hS⟩
            have HL5 := hid hL5
            have HU := hid hU
            have HS := hid hS
            clear HC hL5 hU hS r0 r1 r2 r3 r4 r5 r6 r7 r8
            go_wp2_with fail
            refine HU.out.mono ?_
            rintro e w6 ⟨rfl, rfl⟩
            clear HU
            by_cases hcode : code = 0
            · subst hcode
              clear HS
              go_wp2
              exact ⟨⟨k + 1, by omega, by omega, by go_num, ⟨d2, HL5.out, RX.out⟩⟩, by simp [intOf]; omega⟩
            · have hcb : (code != 0) = true := by rw [bne_iff_ne]; exact hcode
              have HS2 := hid (HS.out hcode)
              clear HS
              go_wp2_with fail
              refine HS2.out.mono ?_
              rintro e w7 ⟨v2, rfl, hL7, hSm⟩
              have HSM := hid hSm
              clear HS2 hSm hL7
              go_wp2_with fail
              refine HSM.out.mono ?_
              rintro e w8 ⟨rfl, hL8⟩
              have HL8 := hid hL8
              clear HSM hL8
              go_wp2
              exact ⟨⟨k + 1, by omega, by omega, by go_num, ⟨d2, HL8.out, RX.out⟩⟩, by simp [intOf]; omega⟩
      · have hd2 : decide ((k : Int) < 40) = false := decide_eq_false (by omega)
        have HB := hid (HBE.out wr (by obtain ⟨d, h, _⟩ := HX.out; exact ⟨d, h⟩))
        clear HX HBE HV HOK
        go_wp2
        go_ret
        exact ⟨rfl, HB.out⟩
    · have hd : decide ((k : Int) < (l.length : Int)) = false := decide_eq_false (by omega)
      have HB := hid (HBE.out wr (by obtain ⟨d, h, _⟩ := HX.out; exact ⟨d, h⟩))
      clear HX HBE HV HOK
      go_wp2
      go_ret
      exact ⟨rfl, HB.out⟩
end Go.Proofs.Ytnlodlpjokkepab
