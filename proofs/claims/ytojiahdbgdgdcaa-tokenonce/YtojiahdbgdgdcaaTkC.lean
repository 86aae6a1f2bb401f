/- Which lists are tables: the document. -/
import Derived.Test.YtojiahdbgdgdcaaTkB
import Derived.Deep.RegionHeld3
namespace Go.Proofs.Ytojiahdbgdgdcaa
open Go.RowKit Go.Maps
set_option linter.unusedVariables false
set_option linter.unusedSimpArgs false

set_option maxRecDepth 100000 in
set_option maxHeartbeats 2000000 in
theorem may15_any (v : Value) (q : List Hd) (w : World) (hv : HdI w v q) (hl : q.length ≤ 8796093022208) (hs : ∀ y ∈ q, y.tk.size ≤ 140737488355328 ∧ y.su.size ≤ 140737488355328) : Calls Try.prog 24 #[v] w fun e w' => e = .returned (.bool (isTb q)) ∧ Below w.heap.size w w' := by
  obtain ⟨ad, cap, rfl, hc⟩ := hv.form
  have HL := hid hl
  have HC := hid hc
  have HRC : Hid (isTb q = (decide (q.length ≤ 64) && tbF none q)) := rfl
  have HR0 : Hid (tbF none q = tbF (prevH q 0) (q.drop 0)) := by show _ = _; simp [prevH]
  have CK0 : Hid (∀ (k : Nat) (hk : k < q.length) (W : World), Calls Try.prog 29 #[.agg #[.string q[k].tk, .string q[k].su, .string q[k].ou, .int .i64 q[k].at_]] W fun e w' => e = .returned (.bool (hdOk q[k])) ∧ Below W.heap.size W w') := fun k hk W => by
    obtain ⟨h1, h2⟩ := hs _ (List.getElem_mem hk)
    exact one15_any q[k] W h1 h2
  generalize isTb q = RR at *
  generalize tbF none q = R at *
  clear hc hv hl hs
  go_enter Try.func24, Try.ntmps24
  go_wp2
  go_loopw [3] (fun i wr => ∃ (k : Nat), k ≤ q.length ∧ i = .int .i64 (k : Int) ∧ Hid (Below w.heap.size w wr) ∧ Hid (R = tbF (prevH q k) (q.drop k))) (fun i _ => q.length - (intOf i).toNat)
  case atStart => exact ⟨0, Nat.zero_le _, rfl, Below.refl _ _, HR0⟩
  case round =>
    clear HR0
    obtain ⟨k, hk, rfl, HB, HR⟩ := hrel
    by_cases hlt : k < q.length
    · have hk1 : (k : Int) < (q.length : Int) := by omega
      have hk0 : (0 : Int) ≤ (k : Int) := by omega
      have hwk : wrap64 ((k : Int) + 1) = ((k + 1 : Nat) : Int) := by have := HL.out; rw [IntWalk.wrap64_in _ (by omega)]; omega
      obtain ⟨b, off, rfl, hb, c0, c1, c2, c3⟩ := HC.out k hlt
      have HBAD := hid (tb_bad hlt HR.out)
      have HGO := hid (tb_go hlt HR.out)
      have HPV : Hid (k = 0 ∧ prevH q k = none ∨ ∃ (m : Nat) (pi : ByteArray), k = m + 1 ∧ prevH q k = some pi ∧ ∀ W, Below w.heap.size w W → W.cell? ⟨b, off + m * 4, none⟩ = some (.string pi)) := by
        cases k with
        | zero => exact .inl ⟨rfl, rfl⟩
        | succ m =>
          obtain ⟨b', off', e, hb', c0', _⟩ := HC.out m (by omega)
          injection e with e
          injection e with e1 e2
          subst e1 e2
          exact .inr ⟨m, _, rfl, prevH_succ q m (by omega), fun W hW => (hW.cell (p := ⟨b, off + m * 4, none⟩) hb').trans c0'⟩
      have HCS : Hid (∀ w', Below w.heap.size w w' → (w'.cell? ⟨b, off + k * 4, none⟩ = some (.string q[k].tk) ∧ w'.cell? ⟨b, off + k * 4 + 1, none⟩ = some (.string q[k].su) ∧ w'.cell? ⟨b, off + k * 4 + 2, none⟩ = some (.string q[k].ou) ∧ w'.cell? ⟨b, off + k * 4 + 3, none⟩ = some (.int .i64 q[k].at_))) := fun w' h => ⟨(h.cell (p := ⟨b, off + k * 4, none⟩) hb).trans c0, (h.cell (p := ⟨b, off + k * 4 + 1, none⟩) hb).trans c1, (h.cell (p := ⟨b, off + k * 4 + 2, none⟩) hb).trans c2, (h.cell (p := ⟨b, off + k * 4 + 3, none⟩) hb).trans c3⟩
      have HX : Hid (∀ W, Below w.heap.size w W → Calls Try.prog 29 #[.agg #[.string q[k].tk, .string q[k].su, .string q[k].ou, .int .i64 q[k].at_]] W fun e w' => e = .returned (.bool (hdOk q[k])) ∧ Hid (Below w.heap.size w w')) := fun W hW => (CK0.out k hlt W).mono fun e w' ⟨he, hb⟩ => ⟨he, below_on hW hb⟩
      have HLT := hid hlt
      have hkL : (k : Int) < 8796093022208 := by have := HL.out; omega
      clear HC HR c0 c1 c2 c3 HL CK0 hb
      generalize hok : hdOk q[k] = OK at *
      generalize q[k] = y at *
      clear hok
      obtain ⟨tk, su, ou, at_⟩ := y
      simp only at *
      generalize prevH q k = PV at *
      have Y5 := hid (HCS.out _ HB.out)
      have BD : Hid (Below w.heap.size w wr.drew) := HB.out.drew
      have HX1 : Hid (∀ W, Below w.heap.size w W → Calls Try.prog 29 #[.agg #[.string tk, .string su, .string ou, .int .i64 at_]] W fun e w' => e = .returned (.bool OK) ∧ (w'.cell? ⟨b, off + k * 4, none⟩ = some (.string tk) ∧ w'.cell? ⟨b, off + k * 4 + 1, none⟩ = some (.string su) ∧ w'.cell? ⟨b, off + k * 4 + 2, none⟩ = some (.string ou) ∧ w'.cell? ⟨b, off + k * 4 + 3, none⟩ = some (.int .i64 at_)) ∧ Hid (Below w.heap.size w w')) := fun W hW => (HX.out W hW).mono fun e w' ⟨he, hb⟩ => ⟨he, HCS.out _ hb.out, hb⟩
      cases OK
      case true =>
        rcases HPV.out with ⟨hz, rfl⟩ | ⟨m, pi, hz, rfl, hpi⟩
        · have HG := hid (HGO.out rfl rfl)
          have g1 : decide (0 < (k : Int)) = false := decide_eq_false (by omega)
          have g2 : decide (0 < k) = false := decide_eq_false (by omega)
          clear HBAD HGO HPV hk hlt hz HX HCS HRC
          go_wp2
          refine wp_region_held_drew (S := (fun w' => (w'.cell? ⟨b, off + k * 4, none⟩ = some (.string tk) ∧ w'.cell? ⟨b, off + k * 4 + 1, none⟩ = some (.string su) ∧ w'.cell? ⟨b, off + k * 4 + 2, none⟩ = some (.string ou) ∧ w'.cell? ⟨b, off + k * 4 + 3, none⟩ = some (.int .i64 at_)))) (by kernel_rfl) Y5.out (fun hHeld => ?_)
          refine wpAnyH_take (i := 0) (v := ?vv20) rfl (by kernel_rfl) (by kernel_rfl) (by kernel_rfl) (fun _ _ _ h => h) (Or.inl ⟨by rfl, ?hy20⟩) (by assumption) ?rest20
          case hy20 => (intro w hSw; (try dsimp only at hSw); go_simp; first | done | with_reducible rfl)
          try simp only [Act.put, List.getElem_toArray, List.getElem_cons_succ, List.getElem_cons_zero, List.setIfInBounds_toArray, List.set_cons_zero, List.set_cons_succ]
          refine wpAnyH_take (i := 1) (v := ?vv21) rfl (by kernel_rfl) (by kernel_rfl) (by kernel_rfl) (fun _ _ _ h => h) (Or.inl ⟨by rfl, ?hy21⟩) (by assumption) ?rest21
          case hy21 => (intro w hSw; (try dsimp only at hSw); go_simp; first | done | with_reducible rfl)
          try simp only [Act.put, List.getElem_toArray, List.getElem_cons_succ, List.getElem_cons_zero, List.setIfInBounds_toArray, List.set_cons_zero, List.set_cons_succ]
          refine wpAnyH_take (i := 2) (v := ?vv22) rfl (by kernel_rfl) (by kernel_rfl) (by kernel_rfl) (fun _ _ _ h => h) (Or.inl ⟨by rfl, ?hy22⟩) (by assumption) ?rest22
          case hy22 => (intro w hSw; (try dsimp only at hSw); go_simp; first | done | with_reducible rfl)
          try simp only [Act.put, List.getElem_toArray, List.getElem_cons_succ, List.getElem_cons_zero, List.setIfInBounds_toArray, List.set_cons_zero, List.set_cons_succ]
          refine wpAnyH_take (i := 3) (v := ?vv23) rfl (by kernel_rfl) (by kernel_rfl) (by kernel_rfl) (fun _ _ _ h => h) (Or.inl ⟨by rfl, ?hy23⟩) (by assumption) ?rest23
          case hy23 => (intro w hSw; (try dsimp only at hSw); go_simp; first | done | with_reducible rfl)
          try simp only [Act.put, List.getElem_toArray, List.getElem_cons_succ, List.getElem_cons_zero, List.setIfInBounds_toArray, List.set_cons_zero, List.set_cons_succ]
          refine wpAnyH_ready (rs := [4]) (by kernel_rfl) (by simp) ?_
          refine AllReadyH.cons rfl (fun K hK => ?_) AllReadyH.nil
          go_simp
          refine (HX1.out _ BD.out).mono ?_
          rintro e w5 ⟨rfl, ZC, B5⟩
          go_wp2_with fail
          refine hK.out _ _ ZC (fun hHeld => ?_)
          clear hK K
          try simp only [Act.put, List.getElem_toArray, List.getElem_cons_succ, List.getElem_cons_zero, List.setIfInBounds_toArray, List.set_cons_zero, List.set_cons_succ]
          refine wpAnyH_take (i := 5) (v := ?vv24) rfl (by kernel_rfl) (by kernel_rfl) (by kernel_rfl) (fun _ _ _ h => h) (Or.inl ⟨by rfl, ?hy24⟩) (by assumption) ?rest24
          case hy24 => (intro w hSw; (try dsimp only at hSw); go_simp; first | done | with_reducible rfl)
          try simp only [Act.put, List.getElem_toArray, List.getElem_cons_succ, List.getElem_cons_zero, List.setIfInBounds_toArray, List.set_cons_zero, List.set_cons_succ]
          refine wpAnyH_take (i := 6) (v := ?vv25) rfl (by kernel_rfl) (by kernel_rfl) (by kernel_rfl) (fun _ _ _ h => h) (Or.inl ⟨by rfl, ?hy25⟩) (by assumption) ?rest25
          case hy25 => (intro w hSw; (try dsimp only at hSw); go_simp; first | done | with_reducible rfl)
          try simp only [Act.put, List.getElem_toArray, List.getElem_cons_succ, List.getElem_cons_zero, List.setIfInBounds_toArray, List.set_cons_zero, List.set_cons_succ]
          refine wpAnyH_take (i := 7) (v := ?vv26) rfl (by kernel_rfl) (by kernel_rfl) (by kernel_rfl) (fun _ _ _ h => h) (Or.inl ⟨by rfl, ?hy26⟩) (by assumption) ?rest26
          case hy26 => (intro w hSw; (try dsimp only at hSw); go_simp; first | done | with_reducible rfl)
          try simp only [Act.put, List.getElem_toArray, List.getElem_cons_succ, List.getElem_cons_zero, List.setIfInBounds_toArray, List.set_cons_zero, List.set_cons_succ]
          refine wpAnyH_take (i := 8) (v := ?vv27) rfl (by kernel_rfl) (by kernel_rfl) (by kernel_rfl) (fun _ _ _ h => h) (Or.inl ⟨by rfl, ?hy27⟩) (by assumption) ?rest27
          case hy27 => (intro w hSw; (try dsimp only at hSw); go_simp; first | done | with_reducible rfl)
          try simp only [Act.put, List.getElem_toArray, List.getElem_cons_succ, List.getElem_cons_zero, List.setIfInBounds_toArray, List.set_cons_zero, List.set_cons_succ]
          refine wpAnyH_take (i := 9) (v := ?vv28) rfl (by kernel_rfl) (by kernel_rfl) (by kernel_rfl) (fun _ _ _ h => h) (Or.inl ⟨by rfl, ?hy28⟩) (by assumption) ?rest28
          case hy28 => (intro w hSw; (try dsimp only at hSw); go_simp; first | done | with_reducible rfl)
          try simp only [Act.put, List.getElem_toArray, List.getElem_cons_succ, List.getElem_cons_zero, List.setIfInBounds_toArray, List.set_cons_zero, List.set_cons_succ]
          refine wpAnyH_take (i := 10) (v := undef) rfl (by kernel_rfl) (by kernel_rfl) (by kernel_rfl) (fun _ _ _ h => h) (Or.inr ⟨by rfl, rfl⟩) (by assumption) ?_
          try simp only [Act.put, List.getElem_toArray, List.getElem_cons_succ, List.getElem_cons_zero, List.setIfInBounds_toArray, List.set_cons_zero, List.set_cons_succ]
          refine wpAnyH_take (i := 11) (v := undef) rfl (by kernel_rfl) (by kernel_rfl) (by kernel_rfl) (fun _ _ _ h => h) (Or.inr ⟨by rfl, rfl⟩) (by assumption) ?_
          try simp only [Act.put, List.getElem_toArray, List.getElem_cons_succ, List.getElem_cons_zero, List.setIfInBounds_toArray, List.set_cons_zero, List.set_cons_succ]
          refine wpAnyH_take (i := 12) (v := undef) rfl (by kernel_rfl) (by kernel_rfl) (by kernel_rfl) (fun _ _ _ h => h) (Or.inr ⟨by rfl, rfl⟩) (by assumption) ?_
          try simp only [Act.put, List.getElem_toArray, List.getElem_cons_succ, List.getElem_cons_zero, List.setIfInBounds_toArray, List.set_cons_zero, List.set_cons_succ]
          refine wpAnyH_take (i := 13) (v := undef) rfl (by kernel_rfl) (by kernel_rfl) (by kernel_rfl) (fun _ _ _ h => h) (Or.inr ⟨by rfl, rfl⟩) (by assumption) ?_
          try simp only [Act.put, List.getElem_toArray, List.getElem_cons_succ, List.getElem_cons_zero, List.setIfInBounds_toArray, List.set_cons_zero, List.set_cons_succ]
          refine wpAnyH_take (i := 14) (v := undef) rfl (by kernel_rfl) (by kernel_rfl) (by kernel_rfl) (fun _ _ _ h => h) (Or.inr ⟨by rfl, rfl⟩) (by assumption) ?_
          try simp only [Act.put, List.getElem_toArray, List.getElem_cons_succ, List.getElem_cons_zero, List.setIfInBounds_toArray, List.set_cons_zero, List.set_cons_succ]
          refine wpAnyH_take (i := 15) (v := undef) rfl (by kernel_rfl) (by kernel_rfl) (by kernel_rfl) (fun _ _ _ h => h) (Or.inr ⟨by rfl, rfl⟩) (by assumption) ?_
          try simp only [Act.put, List.getElem_toArray, List.getElem_cons_succ, List.getElem_cons_zero, List.setIfInBounds_toArray, List.set_cons_zero, List.set_cons_succ]
          refine wpAnyH_take (i := 16) (v := undef) rfl (by kernel_rfl) (by kernel_rfl) (by kernel_rfl) (fun _ _ _ h => h) (Or.inr ⟨by rfl, rfl⟩) (by assumption) ?_
          try simp only [Act.put, List.getElem_toArray, List.getElem_cons_succ, List.getElem_cons_zero, List.setIfInBounds_toArray, List.set_cons_zero, List.set_cons_succ]
          refine wpAnyH_take (i := 17) (v := undef) rfl (by kernel_rfl) (by kernel_rfl) (by kernel_rfl) (fun _ _ _ h => h) (Or.inr ⟨by rfl, rfl⟩) (by assumption) ?_
          try simp only [Act.put, List.getElem_toArray, List.getElem_cons_succ, List.getElem_cons_zero, List.setIfInBounds_toArray, List.set_cons_zero, List.set_cons_succ]
          refine wpAnyH_take (i := 18) (v := undef) rfl (by kernel_rfl) (by kernel_rfl) (by kernel_rfl) (fun _ _ _ h => h) (Or.inr ⟨by rfl, rfl⟩) (by assumption) ?_
          try simp only [Act.put, List.getElem_toArray, List.getElem_cons_succ, List.getElem_cons_zero, List.setIfInBounds_toArray, List.set_cons_zero, List.set_cons_succ]
          refine wpAnyH_take (i := 19) (v := undef) rfl (by kernel_rfl) (by kernel_rfl) (by kernel_rfl) (fun _ _ _ h => h) (Or.inr ⟨by rfl, rfl⟩) (by assumption) ?_
          try simp only [Act.put, List.getElem_toArray, List.getElem_cons_succ, List.getElem_cons_zero, List.setIfInBounds_toArray, List.set_cons_zero, List.set_cons_succ]
          refine wpAnyH_take (i := 20) (v := undef) rfl (by kernel_rfl) (by kernel_rfl) (by kernel_rfl) (fun _ _ _ h => h) (Or.inr ⟨by rfl, rfl⟩) (by assumption) ?_
          try simp only [Act.put, List.getElem_toArray, List.getElem_cons_succ, List.getElem_cons_zero, List.setIfInBounds_toArray, List.set_cons_zero, List.set_cons_succ]
          refine wpAnyH_take (i := 21) (v := undef) rfl (by kernel_rfl) (by kernel_rfl) (by kernel_rfl) (fun _ _ _ h => h) (Or.inr ⟨by rfl, rfl⟩) (by assumption) ?_
          try simp only [Act.put, List.getElem_toArray, List.getElem_cons_succ, List.getElem_cons_zero, List.setIfInBounds_toArray, List.set_cons_zero, List.set_cons_succ]
          refine wpAnyH_take (i := 22) (v := ?vv29) rfl (by kernel_rfl) (by kernel_rfl) (by kernel_rfl) (fun _ _ _ h => h) (Or.inl ⟨by rfl, ?hy29⟩) (by assumption) ?rest29
          case hy29 => (intro w hSw; (try dsimp only at hSw); go_simp; first | done | with_reducible rfl)
          try simp only [Act.put, List.getElem_toArray, List.getElem_cons_succ, List.getElem_cons_zero, List.setIfInBounds_toArray, List.set_cons_zero, List.set_cons_succ]
          refine wpAnyH_take (i := 23) (v := ?vv30) rfl (by kernel_rfl) (by kernel_rfl) (by kernel_rfl) (fun _ _ _ h => h) (Or.inl ⟨by rfl, ?hy30⟩) (by assumption) ?rest30
          case hy30 => (intro w hSw; (try dsimp only at hSw); go_simp; first | done | with_reducible rfl)
          try simp only [Act.put, List.getElem_toArray, List.getElem_cons_succ, List.getElem_cons_zero, List.setIfInBounds_toArray, List.set_cons_zero, List.set_cons_succ]
          refine wpAnyH_done (by kernel_rfl) ?_ _
          clear hHeld ZC
          go_wp2
          exact ⟨⟨k + 1, HLT.out, by first | rw [hwk] | rfl | simp, B5, HG⟩, by (try rw [hwk]); have := HLT.out; simp [intOf]; omega⟩
        · have g1 : decide (0 < (k : Int)) = true := decide_eq_true (by omega)
          have g2 : decide (0 < k) = true := decide_eq_true (by omega)
          have hw1 : wrap64 ((k : Int) - 1) = (m : Int) := by rw [IntWalk.wrap64_in _ (by omega)]; omega
          have hw2 : IntKind.i64.wrap ((k : Int) - 1) = (m : Int) := by rw [IntKind.wrap_i64]; omega
          have hm0 : (0 : Int) ≤ (m : Int) := by omega
          have hm1 : (m : Int) < (q.length : Int) := by omega
          have HPI := hid hpi
          have Y6 : Hid ((wr.cell? ⟨b, off + k * 4, none⟩ = some (.string tk) ∧ wr.cell? ⟨b, off + k * 4 + 1, none⟩ = some (.string su) ∧ wr.cell? ⟨b, off + k * 4 + 2, none⟩ = some (.string ou) ∧ wr.cell? ⟨b, off + k * 4 + 3, none⟩ = some (.int .i64 at_)) ∧ wr.cell? ⟨b, off + m * 4, none⟩ = some (.string pi)) := ⟨Y5.out, HPI.out _ HB.out⟩
          have HX2 : Hid (∀ W, Below w.heap.size w W → Calls Try.prog 29 #[.agg #[.string tk, .string su, .string ou, .int .i64 at_]] W fun e w' => e = .returned (.bool true) ∧ ((w'.cell? ⟨b, off + k * 4, none⟩ = some (.string tk) ∧ w'.cell? ⟨b, off + k * 4 + 1, none⟩ = some (.string su) ∧ w'.cell? ⟨b, off + k * 4 + 2, none⟩ = some (.string ou) ∧ w'.cell? ⟨b, off + k * 4 + 3, none⟩ = some (.int .i64 at_)) ∧ w'.cell? ⟨b, off + m * 4, none⟩ = some (.string pi)) ∧ Hid (Below w.heap.size w w')) := fun W hW => (HX1.out W hW).mono fun e w' ⟨he, hz, hb⟩ => ⟨he, ⟨hz, HPI.out _ hb.out⟩, hb⟩
          cases hge : bb pi tk
          case false =>
            have g3 : (!Op.bytesLess pi.toList tk.toList) = true := by rw [bb_less, hge]; rfl
            have g4 : Op.bytesLess pi.toList tk.toList = false := by rw [bb_less, hge]
            have hr := HBAD.out (.inr (show bb pi tk = false from hge))
            have hrr : RR = false := by rw [HRC.out, hr]; simp
            subst hrr
            clear HBAD HGO HPV hk hlt hz hpi HX HX1 hge HCS HRC HPI
            go_wp2
            go_region_held3 (fun w' => (w'.cell? ⟨b, off + k * 4, none⟩ = some (.string tk) ∧ w'.cell? ⟨b, off + k * 4 + 1, none⟩ = some (.string su) ∧ w'.cell? ⟨b, off + k * 4 + 2, none⟩ = some (.string ou) ∧ w'.cell? ⟨b, off + k * 4 + 3, none⟩ = some (.int .i64 at_)) ∧ w'.cell? ⟨b, off + m * 4, none⟩ = some (.string pi)) (first | exact Y6.out | with_reducible assumption) (first | (go_at_call 29; with_reducible (refine (HX2.out _ ?_).mono ?_); (exact BD.out); rintro e w5 ⟨rfl, ZC, B5⟩))
            clear ZC
            go_wp2
            go_ret
            exact ⟨rfl, B5.out⟩
          case true =>
            have g3 : (!Op.bytesLess pi.toList tk.toList) = false := by rw [bb_less, hge]; rfl
            have g4 : Op.bytesLess pi.toList tk.toList = true := by rw [bb_less, hge]
            have HG := hid (HGO.out rfl (show bb pi tk = true from hge))
            clear HBAD HGO HPV hk hlt hz hpi HX HX1 hge HCS HRC HPI
            go_wp2
            go_region_held3 (fun w' => (w'.cell? ⟨b, off + k * 4, none⟩ = some (.string tk) ∧ w'.cell? ⟨b, off + k * 4 + 1, none⟩ = some (.string su) ∧ w'.cell? ⟨b, off + k * 4 + 2, none⟩ = some (.string ou) ∧ w'.cell? ⟨b, off + k * 4 + 3, none⟩ = some (.int .i64 at_)) ∧ w'.cell? ⟨b, off + m * 4, none⟩ = some (.string pi)) (first | exact Y6.out | with_reducible assumption) (first | (go_at_call 29; with_reducible (refine (HX2.out _ ?_).mono ?_); (exact BD.out); rintro e w5 ⟨rfl, ZC, B5⟩))
            clear ZC
            go_wp2
            exact ⟨⟨k + 1, HLT.out, by first | rw [hwk] | rfl | simp, B5, HG⟩, by (try rw [hwk]); have := HLT.out; simp [intOf]; omega⟩
      case false =>
        have hr := HBAD.out (.inl rfl)
        have hrr : RR = false := by rw [HRC.out, hr]; simp
        subst hrr
        clear HBAD HGO HPV hk hlt HX HCS HRC
        go_wp2
        refine wp_region_held_drew (S := (fun w' => (w'.cell? ⟨b, off + k * 4, none⟩ = some (.string tk) ∧ w'.cell? ⟨b, off + k * 4 + 1, none⟩ = some (.string su) ∧ w'.cell? ⟨b, off + k * 4 + 2, none⟩ = some (.string ou) ∧ w'.cell? ⟨b, off + k * 4 + 3, none⟩ = some (.int .i64 at_)))) (by kernel_rfl) Y5.out (fun hHeld => ?_)
        refine wpAnyH_take (i := 0) (v := ?vv13) rfl (by kernel_rfl) (by kernel_rfl) (by kernel_rfl) (fun _ _ _ h => h) (Or.inl ⟨by rfl, ?hy13⟩) (by assumption) ?rest13
        case hy13 => (intro w hSw; (try dsimp only at hSw); go_simp; first | done | with_reducible rfl)
        try simp only [Act.put, List.getElem_toArray, List.getElem_cons_succ, List.getElem_cons_zero, List.setIfInBounds_toArray, List.set_cons_zero, List.set_cons_succ]
        refine wpAnyH_take (i := 1) (v := ?vv14) rfl (by kernel_rfl) (by kernel_rfl) (by kernel_rfl) (fun _ _ _ h => h) (Or.inl ⟨by rfl, ?hy14⟩) (by assumption) ?rest14
        case hy14 => (intro w hSw; (try dsimp only at hSw); go_simp; first | done | with_reducible rfl)
        try simp only [Act.put, List.getElem_toArray, List.getElem_cons_succ, List.getElem_cons_zero, List.setIfInBounds_toArray, List.set_cons_zero, List.set_cons_succ]
        refine wpAnyH_take (i := 2) (v := ?vv15) rfl (by kernel_rfl) (by kernel_rfl) (by kernel_rfl) (fun _ _ _ h => h) (Or.inl ⟨by rfl, ?hy15⟩) (by assumption) ?rest15
        case hy15 => (intro w hSw; (try dsimp only at hSw); go_simp; first | done | with_reducible rfl)
        try simp only [Act.put, List.getElem_toArray, List.getElem_cons_succ, List.getElem_cons_zero, List.setIfInBounds_toArray, List.set_cons_zero, List.set_cons_succ]
        refine wpAnyH_take (i := 3) (v := ?vv16) rfl (by kernel_rfl) (by kernel_rfl) (by kernel_rfl) (fun _ _ _ h => h) (Or.inl ⟨by rfl, ?hy16⟩) (by assumption) ?rest16
        case hy16 => (intro w hSw; (try dsimp only at hSw); go_simp; first | done | with_reducible rfl)
        try simp only [Act.put, List.getElem_toArray, List.getElem_cons_succ, List.getElem_cons_zero, List.setIfInBounds_toArray, List.set_cons_zero, List.set_cons_succ]
        refine wpAnyH_ready (rs := [4]) (by kernel_rfl) (by simp) ?_
        refine AllReadyH.cons rfl (fun K hK => ?_) AllReadyH.nil
        go_simp
        refine (HX1.out _ BD.out).mono ?_
        rintro e w5 ⟨rfl, ZC, B5⟩
        go_wp2_with fail
        refine hK.out _ _ ZC (fun hHeld => ?_)
        clear hK K
        try simp only [Act.put, List.getElem_toArray, List.getElem_cons_succ, List.getElem_cons_zero, List.setIfInBounds_toArray, List.set_cons_zero, List.set_cons_succ]
        refine wpAnyH_take (i := 5) (v := ?vv17) rfl (by kernel_rfl) (by kernel_rfl) (by kernel_rfl) (fun _ _ _ h => h) (Or.inl ⟨by rfl, ?hy17⟩) (by assumption) ?rest17
        case hy17 => (intro w hSw; (try dsimp only at hSw); go_simp; first | done | with_reducible rfl)
        try simp only [Act.put, List.getElem_toArray, List.getElem_cons_succ, List.getElem_cons_zero, List.setIfInBounds_toArray, List.set_cons_zero, List.set_cons_succ]
        refine wpAnyH_take (i := 6) (v := ?vv18) rfl (by kernel_rfl) (by kernel_rfl) (by kernel_rfl) (fun _ _ _ h => h) (Or.inl ⟨by rfl, ?hy18⟩) (by assumption) ?rest18
        case hy18 => (intro w hSw; (try dsimp only at hSw); go_simp; first | done | with_reducible rfl)
        try simp only [Act.put, List.getElem_toArray, List.getElem_cons_succ, List.getElem_cons_zero, List.setIfInBounds_toArray, List.set_cons_zero, List.set_cons_succ]
        refine wpAnyH_take (i := 7) (v := undef) rfl (by kernel_rfl) (by kernel_rfl) (by kernel_rfl) (fun _ _ _ h => h) (Or.inr ⟨by rfl, rfl⟩) (by assumption) ?_
        try simp only [Act.put, List.getElem_toArray, List.getElem_cons_succ, List.getElem_cons_zero, List.setIfInBounds_toArray, List.set_cons_zero, List.set_cons_succ]
        refine wpAnyH_take (i := 8) (v := undef) rfl (by kernel_rfl) (by kernel_rfl) (by kernel_rfl) (fun _ _ _ h => h) (Or.inr ⟨by rfl, rfl⟩) (by assumption) ?_
        try simp only [Act.put, List.getElem_toArray, List.getElem_cons_succ, List.getElem_cons_zero, List.setIfInBounds_toArray, List.set_cons_zero, List.set_cons_succ]
        refine wpAnyH_take (i := 9) (v := undef) rfl (by kernel_rfl) (by kernel_rfl) (by kernel_rfl) (fun _ _ _ h => h) (Or.inr ⟨by rfl, rfl⟩) (by assumption) ?_
        try simp only [Act.put, List.getElem_toArray, List.getElem_cons_succ, List.getElem_cons_zero, List.setIfInBounds_toArray, List.set_cons_zero, List.set_cons_succ]
        refine wpAnyH_take (i := 10) (v := undef) rfl (by kernel_rfl) (by kernel_rfl) (by kernel_rfl) (fun _ _ _ h => h) (Or.inr ⟨by rfl, rfl⟩) (by assumption) ?_
        try simp only [Act.put, List.getElem_toArray, List.getElem_cons_succ, List.getElem_cons_zero, List.setIfInBounds_toArray, List.set_cons_zero, List.set_cons_succ]
        refine wpAnyH_take (i := 11) (v := undef) rfl (by kernel_rfl) (by kernel_rfl) (by kernel_rfl) (fun _ _ _ h => h) (Or.inr ⟨by rfl, rfl⟩) (by assumption) ?_
        try simp only [Act.put, List.getElem_toArray, List.getElem_cons_succ, List.getElem_cons_zero, List.setIfInBounds_toArray, List.set_cons_zero, List.set_cons_succ]
        refine wpAnyH_take (i := 12) (v := undef) rfl (by kernel_rfl) (by kernel_rfl) (by kernel_rfl) (fun _ _ _ h => h) (Or.inr ⟨by rfl, rfl⟩) (by assumption) ?_
        try simp only [Act.put, List.getElem_toArray, List.getElem_cons_succ, List.getElem_cons_zero, List.setIfInBounds_toArray, List.set_cons_zero, List.set_cons_succ]
        refine wpAnyH_take (i := 13) (v := undef) rfl (by kernel_rfl) (by kernel_rfl) (by kernel_rfl) (fun _ _ _ h => h) (Or.inr ⟨by rfl, rfl⟩) (by assumption) ?_
        try simp only [Act.put, List.getElem_toArray, List.getElem_cons_succ, List.getElem_cons_zero, List.setIfInBounds_toArray, List.set_cons_zero, List.set_cons_succ]
        refine wpAnyH_take (i := 14) (v := undef) rfl (by kernel_rfl) (by kernel_rfl) (by kernel_rfl) (fun _ _ _ h => h) (Or.inr ⟨by rfl, rfl⟩) (by assumption) ?_
        try simp only [Act.put, List.getElem_toArray, List.getElem_cons_succ, List.getElem_cons_zero, List.setIfInBounds_toArray, List.set_cons_zero, List.set_cons_succ]
        refine wpAnyH_take (i := 15) (v := undef) rfl (by kernel_rfl) (by kernel_rfl) (by kernel_rfl) (fun _ _ _ h => h) (Or.inr ⟨by rfl, rfl⟩) (by assumption) ?_
        try simp only [Act.put, List.getElem_toArray, List.getElem_cons_succ, List.getElem_cons_zero, List.setIfInBounds_toArray, List.set_cons_zero, List.set_cons_succ]
        refine wpAnyH_take (i := 16) (v := undef) rfl (by kernel_rfl) (by kernel_rfl) (by kernel_rfl) (fun _ _ _ h => h) (Or.inr ⟨by rfl, rfl⟩) (by assumption) ?_
        try simp only [Act.put, List.getElem_toArray, List.getElem_cons_succ, List.getElem_cons_zero, List.setIfInBounds_toArray, List.set_cons_zero, List.set_cons_succ]
        refine wpAnyH_take (i := 17) (v := undef) rfl (by kernel_rfl) (by kernel_rfl) (by kernel_rfl) (fun _ _ _ h => h) (Or.inr ⟨by rfl, rfl⟩) (by assumption) ?_
        try simp only [Act.put, List.getElem_toArray, List.getElem_cons_succ, List.getElem_cons_zero, List.setIfInBounds_toArray, List.set_cons_zero, List.set_cons_succ]
        refine wpAnyH_take (i := 18) (v := undef) rfl (by kernel_rfl) (by kernel_rfl) (by kernel_rfl) (fun _ _ _ h => h) (Or.inr ⟨by rfl, rfl⟩) (by assumption) ?_
        try simp only [Act.put, List.getElem_toArray, List.getElem_cons_succ, List.getElem_cons_zero, List.setIfInBounds_toArray, List.set_cons_zero, List.set_cons_succ]
        refine wpAnyH_take (i := 19) (v := undef) rfl (by kernel_rfl) (by kernel_rfl) (by kernel_rfl) (fun _ _ _ h => h) (Or.inr ⟨by rfl, rfl⟩) (by assumption) ?_
        try simp only [Act.put, List.getElem_toArray, List.getElem_cons_succ, List.getElem_cons_zero, List.setIfInBounds_toArray, List.set_cons_zero, List.set_cons_succ]
        refine wpAnyH_take (i := 20) (v := undef) rfl (by kernel_rfl) (by kernel_rfl) (by kernel_rfl) (fun _ _ _ h => h) (Or.inr ⟨by rfl, rfl⟩) (by assumption) ?_
        try simp only [Act.put, List.getElem_toArray, List.getElem_cons_succ, List.getElem_cons_zero, List.setIfInBounds_toArray, List.set_cons_zero, List.set_cons_succ]
        refine wpAnyH_take (i := 21) (v := undef) rfl (by kernel_rfl) (by kernel_rfl) (by kernel_rfl) (fun _ _ _ h => h) (Or.inr ⟨by rfl, rfl⟩) (by assumption) ?_
        try simp only [Act.put, List.getElem_toArray, List.getElem_cons_succ, List.getElem_cons_zero, List.setIfInBounds_toArray, List.set_cons_zero, List.set_cons_succ]
        refine wpAnyH_take (i := 22) (v := undef) rfl (by kernel_rfl) (by kernel_rfl) (by kernel_rfl) (fun _ _ _ h => h) (Or.inr ⟨by rfl, rfl⟩) (by assumption) ?_
        try simp only [Act.put, List.getElem_toArray, List.getElem_cons_succ, List.getElem_cons_zero, List.setIfInBounds_toArray, List.set_cons_zero, List.set_cons_succ]
        refine wpAnyH_take (i := 23) (v := ?vv19) rfl (by kernel_rfl) (by kernel_rfl) (by kernel_rfl) (fun _ _ _ h => h) (Or.inl ⟨by rfl, ?hy19⟩) (by assumption) ?rest19
        case hy19 => (intro w hSw; (try dsimp only at hSw); go_simp; first | done | with_reducible rfl)
        try simp only [Act.put, List.getElem_toArray, List.getElem_cons_succ, List.getElem_cons_zero, List.setIfInBounds_toArray, List.set_cons_zero, List.set_cons_succ]
        refine wpAnyH_done (by kernel_rfl) ?_ _
        clear hHeld ZC
        go_wp2
        go_ret
        exact ⟨rfl, B5.out⟩
    · have hke : k = q.length := by omega
      have hd : decide ((k : Int) < (q.length : Int)) = false := decide_eq_false (by omega)
      have hd2 : decide (k < q.length) = false := decide_eq_false hlt
      have HS : Hid (R = true) := by
        show _ = _
        rw [HR.out, List.drop_eq_nil_of_le (by omega)]; rfl
      have hrr : RR = decide (q.length ≤ 64) := by rw [HRC.out, HS.out]; simp
      by_cases h3 : q.length ≤ 64
      · have h4 : decide ((q.length : Int) ≤ 64) = true := decide_eq_true (by omega)
        have h5 : decide (q.length ≤ 64) = true := decide_eq_true h3
        rw [h5] at hrr
        subst hrr
        clear HC HR HS HL CK0 hke hlt hk h3 HRC
        go_wp2
        go_ret
        exact ⟨rfl, HB.out⟩
      · have h4 : decide ((q.length : Int) ≤ 64) = false := decide_eq_false (by omega)
        have h5 : decide (q.length ≤ 64) = false := decide_eq_false h3
        rw [h5] at hrr
        subst hrr
        clear HC HR HS HL CK0 hke hlt hk h3 HRC
        go_wp2
        go_ret
        exact ⟨rfl, HB.out⟩
end Go.Proofs.Ytojiahdbgdgdcaa
