/- Which lists are tables: the program. -/
import Derived.Test.YtojiahdbgdgdcaaTkA
import Derived.Deep.RegionHeld3
namespace Go.Proofs.Ytojiahdbgdgdcaa
open Go.RowKit Go.Maps
set_option linter.unusedVariables false
set_option linter.unusedSimpArgs false

theorem tb_bad {q : List Hd} {R : Bool} {k : Nat} (hk : k < q.length) (hR : R = tbF (prevH q k) (q.drop k)) (h : hdOk q[k] = false ∨ hdAbove (prevH q k) q[k].tk = false) : R = false := by
  rw [hR, tbF_at q k hk]
  rcases h with h | h
  · rw [h]; rfl
  · rw [h]; simp
theorem tb_go {q : List Hd} {R : Bool} {k : Nat} (hk : k < q.length) (hR : R = tbF (prevH q k) (q.drop k)) (h1 : hdOk q[k] = true) (h2 : hdAbove (prevH q k) q[k].tk = true) : R = tbF (prevH q (k + 1)) (q.drop (k + 1)) := by
  rw [hR, tbF_at q k hk, h1, h2]; rfl
set_option maxRecDepth 100000 in
set_option maxHeartbeats 2000000 in
theorem isTable_any (v : Value) (q : List Hd) (w : World) (hv : HdI w v q) : Calls Try.prog 21 #[v] w fun e w' => e = .returned (.bool (isTb q)) ∧ Below w.heap.size w w' := by
  obtain ⟨ad, cap, rfl, hc⟩ := hv.form
  by_cases h5 : 64 < q.length
  · have h5i : decide (64 < (q.length : Int)) = true := decide_eq_true (by omega)
    have h5j : decide (64 < q.length) = true := decide_eq_true h5
    have hr : isTb q = false := by unfold isTb; rw [decide_eq_false (by omega)]; rfl
    rw [hr]
    clear hc hv h5 hr
    go_enter Try.func21, Try.ntmps21
    go_wp2
    go_ret
    exact ⟨rfl, Below.refl _ _⟩
  have h5i : decide (64 < (q.length : Int)) = false := decide_eq_false (by omega)
  have h5j : decide (64 < q.length) = false := decide_eq_false h5
  have HL : Hid (q.length ≤ 64) := by show _ ≤ _; omega
  have HR0 : Hid (isTb q = tbF (prevH q 0) (q.drop 0)) := by
    show _ = _
    unfold isTb
    rw [decide_eq_true HL.out]
    simp [prevH]
  have HC := hid hc
  have CK0 := hid (fun x W => mayBe_any x W)
  generalize isTb q = R at *
  clear hc hv h5
  go_enter Try.func21, Try.ntmps21
  go_wp2
  go_loopw [10] (fun i wr => ∃ (k : Nat), k ≤ q.length ∧ i = .int .i64 (k : Int) ∧ Hid (Below w.heap.size w wr) ∧ Hid (R = tbF (prevH q k) (q.drop k))) (fun i _ => q.length - (intOf i).toNat)
  case atStart => exact ⟨0, Nat.zero_le _, rfl, Below.refl _ _, HR0⟩
  case round =>
    clear h5i h5j HR0
    obtain ⟨k, hk, rfl, HB, HR⟩ := hrel
    by_cases hlt : k < q.length
    · have hk1 : (k : Int) < (q.length : Int) := by omega
      have hk0 : (0 : Int) ≤ (k : Int) := by omega
      have hwk : wrap64 ((k : Int) + 1) = ((k + 1 : Nat) : Int) := by have := HL.out; rw [IntWalk.wrap64_in _ (by omega)]; omega
      obtain ⟨b, off, rfl, hb, c0, c1, c2, c3⟩ := HC.out k hlt
      have d0 := (HB.out.cell (p := ⟨b, off + k * 4, none⟩) hb).trans c0
      have d1 := (HB.out.cell (p := ⟨b, off + k * 4 + 1, none⟩) hb).trans c1
      have d2 := (HB.out.cell (p := ⟨b, off + k * 4 + 2, none⟩) hb).trans c2
      have d3 := (HB.out.cell (p := ⟨b, off + k * 4 + 3, none⟩) hb).trans c3
      have HBAD := hid (tb_bad hlt HR.out)
      have HGO := hid (tb_go hlt HR.out)
      have HPV : Hid (k = 0 ∧ prevH q k = none ∨ ∃ (m : Nat) (pi : ByteArray), k = m + 1 ∧ prevH q k = some pi ∧ ∀ W, Below w.heap.size w W → W.cell? ⟨b, off + m * 4, none⟩ = some (.string pi)) := by
        cases k with
        | zero => exact .inl ⟨rfl, rfl⟩
        | succ m =>
          obtain ⟨b', off', e, hb', c0', _⟩ := HC.out m (by omega)
          injection e with e
          injection e with e1 e2
          subst e1 e2
          exact .inr ⟨m, _, rfl, prevH_succ q m (by omega), fun W hW => (hW.cell (p := ⟨b, off + m * 4, none⟩) hb').trans c0'⟩
      have HX : Hid (∀ W, Bx w wr.heap.size [.string q[k].tk, .string q[k].su, .string q[k].ou, .int .i64 q[k].at_] 31 W → Calls Try.prog 26 #[.agg #[.string q[k].tk, .string q[k].su, .string q[k].ou, .int .i64 q[k].at_]] W fun e w' => e = .returned (.bool (hdOk q[k])) ∧ (w'.cell? ⟨wr.heap.size, 0, none⟩ = some (.string q[k].tk) ∧ w'.cell? ⟨wr.heap.size, 1, none⟩ = some (.string q[k].su) ∧ w'.cell? ⟨wr.heap.size, 2, none⟩ = some (.string q[k].ou) ∧ w'.cell? ⟨wr.heap.size, 3, none⟩ = some (.int .i64 q[k].at_)) ∧ Hid (Bx w wr.heap.size [.string q[k].tk, .string q[k].su, .string q[k].ou, .int .i64 q[k].at_] 31 w')) := fun W hW => (CK0.out q[k] W).mono fun e w' ⟨he, hb⟩ => ⟨he, ⟨(hW.next hb).row.cellAt rfl, (hW.next hb).row.cellAt rfl, (hW.next hb).row.cellAt rfl, (hW.next hb).row.cellAt rfl⟩, hW.next hb⟩
      have BM := hid (Bx.made HB.out [.string q[k].tk, .string q[k].su, .string q[k].ou, .int .i64 q[k].at_] 31)
      have HLT := hid hlt
      have hkL : (k : Int) < 65 := by have := HL.out; omega
      clear HC HR c0 c1 c2 c3 HL CK0 hb HB
      generalize hok : hdOk q[k] = OK at *
      generalize q[k] = y at *
      clear hok
      obtain ⟨tk, su, ou, at_⟩ := y
      simp only at *
      generalize prevH q k = PV at *
      have y0 := BM.out.row.cellAt (o := 0) rfl
      have y1 := BM.out.row.cellAt (o := 1) rfl
      have y2 := BM.out.row.cellAt (o := 2) rfl
      have y3 := BM.out.row.cellAt (o := 3) rfl
      cases OK
      case true =>
        rcases HPV.out with ⟨hz, rfl⟩ | ⟨m, pi, hz, rfl, hpi⟩
        · have HG := hid (HGO.out rfl rfl)
          have g1 : decide (0 < (k : Int)) = false := decide_eq_false (by omega)
          have g2 : decide (0 < k) = false := decide_eq_false (by omega)
          clear HBAD HGO HPV hk hlt hz
          go_wp2
          refine wp_region_held_drew (S := (fun w' => w'.cell? ⟨wr.heap.size, 0, none⟩ = some (.string tk) ∧ w'.cell? ⟨wr.heap.size, 1, none⟩ = some (.string su) ∧ w'.cell? ⟨wr.heap.size, 2, none⟩ = some (.string ou) ∧ w'.cell? ⟨wr.heap.size, 3, none⟩ = some (.int .i64 at_))) (by kernel_rfl) ⟨y0, y1, y2, y3⟩ (fun hHeld => ?_)
          refine wpAnyH_take (i := 0) (v := ?vv5) rfl (by kernel_rfl) (by kernel_rfl) (by kernel_rfl) (fun _ _ _ h => h) (Or.inl ⟨by rfl, ?hy5⟩) (by assumption) ?rest5
          case hy5 => (intro w hSw; (try dsimp only at hSw); go_simp; first | done | with_reducible rfl)
          try simp only [Act.put, List.getElem_toArray, List.getElem_cons_succ, List.getElem_cons_zero, List.setIfInBounds_toArray, List.set_cons_zero, List.set_cons_succ]
          refine wpAnyH_ready (rs := [1]) (by kernel_rfl) (by simp) ?_
          refine AllReadyH.cons rfl (fun K hK => ?_) AllReadyH.nil
          go_simp
          refine (HX.out _ BM.out.drew).mono ?_
          rintro e w5 ⟨rfl, ZC, B5⟩
          go_wp2_with fail
          refine hK.out _ _ ZC (fun hHeld => ?_)
          clear hK K
          try simp only [Act.put, List.getElem_toArray, List.getElem_cons_succ, List.getElem_cons_zero, List.setIfInBounds_toArray, List.set_cons_zero, List.set_cons_succ]
          refine wpAnyH_take (i := 2) (v := ?vv6) rfl (by kernel_rfl) (by kernel_rfl) (by kernel_rfl) (fun _ _ _ h => h) (Or.inl ⟨by rfl, ?hy6⟩) (by assumption) ?rest6
          case hy6 => (intro w hSw; (try dsimp only at hSw); go_simp; first | done | with_reducible rfl)
          try simp only [Act.put, List.getElem_toArray, List.getElem_cons_succ, List.getElem_cons_zero, List.setIfInBounds_toArray, List.set_cons_zero, List.set_cons_succ]
          refine wpAnyH_take (i := 3) (v := ?vv7) rfl (by kernel_rfl) (by kernel_rfl) (by kernel_rfl) (fun _ _ _ h => h) (Or.inl ⟨by rfl, ?hy7⟩) (by assumption) ?rest7
          case hy7 => (intro w hSw; (try dsimp only at hSw); go_simp; first | done | with_reducible rfl)
          try simp only [Act.put, List.getElem_toArray, List.getElem_cons_succ, List.getElem_cons_zero, List.setIfInBounds_toArray, List.set_cons_zero, List.set_cons_succ]
          refine wpAnyH_take (i := 4) (v := ?vv8) rfl (by kernel_rfl) (by kernel_rfl) (by kernel_rfl) (fun _ _ _ h => h) (Or.inl ⟨by rfl, ?hy8⟩) (by assumption) ?rest8
          case hy8 => (intro w hSw; (try dsimp only at hSw); go_simp; first | done | with_reducible rfl)
          try simp only [Act.put, List.getElem_toArray, List.getElem_cons_succ, List.getElem_cons_zero, List.setIfInBounds_toArray, List.set_cons_zero, List.set_cons_succ]
          refine wpAnyH_take (i := 5) (v := ?vv9) rfl (by kernel_rfl) (by kernel_rfl) (by kernel_rfl) (fun _ _ _ h => h) (Or.inl ⟨by rfl, ?hy9⟩) (by assumption) ?rest9
          case hy9 => (intro w hSw; (try dsimp only at hSw); go_simp; first | done | with_reducible rfl)
          try simp only [Act.put, List.getElem_toArray, List.getElem_cons_succ, List.getElem_cons_zero, List.setIfInBounds_toArray, List.set_cons_zero, List.set_cons_succ]
          refine wpAnyH_take (i := 6) (v := ?vv10) rfl (by kernel_rfl) (by kernel_rfl) (by kernel_rfl) (fun _ _ _ h => h) (Or.inl ⟨by rfl, ?hy10⟩) (by assumption) ?rest10
          case hy10 => (intro w hSw; (try dsimp only at hSw); go_simp; first | done | with_reducible rfl)
          try simp only [Act.put, List.getElem_toArray, List.getElem_cons_succ, List.getElem_cons_zero, List.setIfInBounds_toArray, List.set_cons_zero, List.set_cons_succ]
          refine wpAnyH_take (i := 7) (v := undef) rfl (by kernel_rfl) (by kernel_rfl) (by kernel_rfl) (fun _ _ _ h => h) (Or.inr ⟨by rfl, rfl⟩) (by assumption) ?_
          try simp only [Act.put, List.getElem_toArray, List.getElem_cons_succ, List.getElem_cons_zero, List.setIfInBounds_toArray, List.set_cons_zero, List.set_cons_succ]
          refine wpAnyH_take (i := 8) (v := undef) rfl (by kernel_rfl) (by kernel_rfl) (by kernel_rfl) (fun _ _ _ h => h) (Or.inr ⟨by rfl, rfl⟩) (by assumption) ?_
          try simp only [Act.put, List.getElem_toArray, List.getElem_cons_succ, List.getElem_cons_zero, List.setIfInBounds_toArray, List.set_cons_zero, List.set_cons_succ]
          refine wpAnyH_take (i := 9) (v := undef) rfl (by kernel_rfl) (by kernel_rfl) (by kernel_rfl) (fun _ _ _ h => h) (Or.inr ⟨by rfl, rfl⟩) (by assumption) ?_
          try simp only [Act.put, List.getElem_toArray, List.getElem_cons_succ, List.getElem_cons_zero, List.setIfInBounds_toArray, List.set_cons_zero, List.set_cons_succ]
          refine wpAnyH_take (i := 10) (v := undef) rfl (by kernel_rfl) (by kernel_rfl) (by kernel_rfl) (fun _ _ _ h => h) (Or.inr ⟨by rfl, rfl⟩) (by assumption) ?_
          try simp only [Act.put, List.getElem_toArray, List.getElem_cons_succ, List.getElem_cons_zero, List.setIfInBounds_toArray, List.set_cons_zero, List.set_cons_succ]
          refine wpAnyH_take (i := 11) (v := undef) rfl (by kernel_rfl) (by kernel_rfl) (by kernel_rfl) (fun _ _ _ h => h) (Or.inr ⟨by rfl, rfl⟩) (by assumption) ?_
          try simp only [Act.put, List.getElem_toArray, List.getElem_cons_succ, List.getElem_cons_zero, List.setIfInBounds_toArray, List.set_cons_zero, List.set_cons_succ]
          refine wpAnyH_take (i := 12) (v := undef) rfl (by kernel_rfl) (by kernel_rfl) (by kernel_rfl) (fun _ _ _ h => h) (Or.inr ⟨by rfl, rfl⟩) (by assumption) ?_
          try simp only [Act.put, List.getElem_toArray, List.getElem_cons_succ, List.getElem_cons_zero, List.setIfInBounds_toArray, List.set_cons_zero, List.set_cons_succ]
          refine wpAnyH_take (i := 13) (v := undef) rfl (by kernel_rfl) (by kernel_rfl) (by kernel_rfl) (fun _ _ _ h => h) (Or.inr ⟨by rfl, rfl⟩) (by assumption) ?_
          try simp only [Act.put, List.getElem_toArray, List.getElem_cons_succ, List.getElem_cons_zero, List.setIfInBounds_toArray, List.set_cons_zero, List.set_cons_succ]
          refine wpAnyH_take (i := 14) (v := undef) rfl (by kernel_rfl) (by kernel_rfl) (by kernel_rfl) (fun _ _ _ h => h) (Or.inr ⟨by rfl, rfl⟩) (by assumption) ?_
          try simp only [Act.put, List.getElem_toArray, List.getElem_cons_succ, List.getElem_cons_zero, List.setIfInBounds_toArray, List.set_cons_zero, List.set_cons_succ]
          refine wpAnyH_take (i := 15) (v := undef) rfl (by kernel_rfl) (by kernel_rfl) (by kernel_rfl) (fun _ _ _ h => h) (Or.inr ⟨by rfl, rfl⟩) (by assumption) ?_
          try simp only [Act.put, List.getElem_toArray, List.getElem_cons_succ, List.getElem_cons_zero, List.setIfInBounds_toArray, List.set_cons_zero, List.set_cons_succ]
          refine wpAnyH_take (i := 16) (v := ?vv11) rfl (by kernel_rfl) (by kernel_rfl) (by kernel_rfl) (fun _ _ _ h => h) (Or.inl ⟨by rfl, ?hy11⟩) (by assumption) ?rest11
          case hy11 => (intro w hSw; (try dsimp only at hSw); go_simp; first | done | with_reducible rfl)
          try simp only [Act.put, List.getElem_toArray, List.getElem_cons_succ, List.getElem_cons_zero, List.setIfInBounds_toArray, List.set_cons_zero, List.set_cons_succ]
          refine wpAnyH_take (i := 17) (v := ?vv12) rfl (by kernel_rfl) (by kernel_rfl) (by kernel_rfl) (fun _ _ _ h => h) (Or.inl ⟨by rfl, ?hy12⟩) (by assumption) ?rest12
          case hy12 => (intro w hSw; (try dsimp only at hSw); go_simp; first | done | with_reducible rfl)
          try simp only [Act.put, List.getElem_toArray, List.getElem_cons_succ, List.getElem_cons_zero, List.setIfInBounds_toArray, List.set_cons_zero, List.set_cons_succ]
          refine wpAnyH_done (by kernel_rfl) ?_ _
          clear hHeld ZC
          go_wp2
          exact ⟨⟨k + 1, HLT.out, by first | rw [hwk] | rfl | simp, B5.out.b, HG⟩, by (try rw [hwk]); have := HLT.out; simp [intOf]; omega⟩
        · have g1 : decide (0 < (k : Int)) = true := decide_eq_true (by omega)
          have g2 : decide (0 < k) = true := decide_eq_true (by omega)
          have hw1 : wrap64 ((k : Int) - 1) = (m : Int) := by rw [IntWalk.wrap64_in _ (by omega)]; omega
          have hw2 : IntKind.i64.wrap ((k : Int) - 1) = (m : Int) := by rw [IntKind.wrap_i64]; omega
          have hm0 : (0 : Int) ≤ (m : Int) := by omega
          have hm1 : (m : Int) < (q.length : Int) := by omega
          have HPI := hid hpi
          have yp := HPI.out _ BM.out.b
          have HX2 : Hid (∀ W, Bx w wr.heap.size [.string tk, .string su, .string ou, .int .i64 at_] 31 W → Calls Try.prog 26 #[.agg #[.string tk, .string su, .string ou, .int .i64 at_]] W fun e w' => e = .returned (.bool true) ∧ ((w'.cell? ⟨wr.heap.size, 0, none⟩ = some (.string tk) ∧ w'.cell? ⟨wr.heap.size, 1, none⟩ = some (.string su) ∧ w'.cell? ⟨wr.heap.size, 2, none⟩ = some (.string ou) ∧ w'.cell? ⟨wr.heap.size, 3, none⟩ = some (.int .i64 at_)) ∧ w'.cell? ⟨b, off + m * 4, none⟩ = some (.string pi)) ∧ Hid (Bx w wr.heap.size [.string tk, .string su, .string ou, .int .i64 at_] 31 w')) := fun W hW => (HX.out W hW).mono fun e w' ⟨he, hz, hb⟩ => ⟨he, ⟨hz, HPI.out _ hb.out.b⟩, hb⟩
          cases hge : bb pi tk
          case false =>
            have g3 : (Op.bytesLess tk.toList pi.toList || tk.toList == pi.toList) = true := by rw [bb_le, hge]; rfl
            have hr := HBAD.out (.inr (show bb pi tk = false from hge))
            subst hr
            clear HBAD HGO HPV hk hlt hz hpi HX hge
            go_wp2
            go_region_held3 (fun w' => (w'.cell? ⟨wr.heap.size, 0, none⟩ = some (.string tk) ∧ w'.cell? ⟨wr.heap.size, 1, none⟩ = some (.string su) ∧ w'.cell? ⟨wr.heap.size, 2, none⟩ = some (.string ou) ∧ w'.cell? ⟨wr.heap.size, 3, none⟩ = some (.int .i64 at_)) ∧ w'.cell? ⟨b, off + m * 4, none⟩ = some (.string pi)) (first | exact ⟨⟨y0, y1, y2, y3⟩, yp⟩ | with_reducible assumption) (first | (go_at_call 26; with_reducible (refine (HX2.out _ ?_).mono ?_); (exact BM.out.drew); rintro e w5 ⟨rfl, ZC, B5⟩))
            clear ZC
            go_wp2
            go_ret
            exact ⟨rfl, B5.out.b⟩
          case true =>
            have g3 : (Op.bytesLess tk.toList pi.toList || tk.toList == pi.toList) = false := by rw [bb_le, hge]; rfl
            have HG := hid (HGO.out rfl (show bb pi tk = true from hge))
            clear HBAD HGO HPV hk hlt hz hpi HX hge
            go_wp2
            go_region_held3 (fun w' => (w'.cell? ⟨wr.heap.size, 0, none⟩ = some (.string tk) ∧ w'.cell? ⟨wr.heap.size, 1, none⟩ = some (.string su) ∧ w'.cell? ⟨wr.heap.size, 2, none⟩ = some (.string ou) ∧ w'.cell? ⟨wr.heap.size, 3, none⟩ = some (.int .i64 at_)) ∧ w'.cell? ⟨b, off + m * 4, none⟩ = some (.string pi)) (first | exact ⟨⟨y0, y1, y2, y3⟩, yp⟩ | with_reducible assumption) (first | (go_at_call 26; with_reducible (refine (HX2.out _ ?_).mono ?_); (exact BM.out.drew); rintro e w5 ⟨rfl, ZC, B5⟩))
            clear ZC
            go_wp2
            exact ⟨⟨k + 1, HLT.out, by first | rw [hwk] | rfl | simp, B5.out.b, HG⟩, by (try rw [hwk]); have := HLT.out; simp [intOf]; omega⟩
      case false =>
        have hr := HBAD.out (.inl rfl)
        subst hr
        clear HBAD HGO HPV hk hlt
        go_wp2
        refine wp_region_held_drew (S := (fun w' => w'.cell? ⟨wr.heap.size, 0, none⟩ = some (.string tk) ∧ w'.cell? ⟨wr.heap.size, 1, none⟩ = some (.string su) ∧ w'.cell? ⟨wr.heap.size, 2, none⟩ = some (.string ou) ∧ w'.cell? ⟨wr.heap.size, 3, none⟩ = some (.int .i64 at_))) (by kernel_rfl) ⟨y0, y1, y2, y3⟩ (fun hHeld => ?_)
        refine wpAnyH_take (i := 0) (v := ?vv1) rfl (by kernel_rfl) (by kernel_rfl) (by kernel_rfl) (fun _ _ _ h => h) (Or.inl ⟨by rfl, ?hy1⟩) (by assumption) ?rest1
        case hy1 => (intro w hSw; (try dsimp only at hSw); go_simp; first | done | with_reducible rfl)
        try simp only [Act.put, List.getElem_toArray, List.getElem_cons_succ, List.getElem_cons_zero, List.setIfInBounds_toArray, List.set_cons_zero, List.set_cons_succ]
        refine wpAnyH_ready (rs := [1]) (by kernel_rfl) (by simp) ?_
        refine AllReadyH.cons rfl (fun K hK => ?_) AllReadyH.nil
        go_simp
        refine (HX.out _ BM.out.drew).mono ?_
        rintro e w5 ⟨rfl, ZC, B5⟩
        go_wp2_with fail
        refine hK.out _ _ ZC (fun hHeld => ?_)
        clear hK K
        try simp only [Act.put, List.getElem_toArray, List.getElem_cons_succ, List.getElem_cons_zero, List.setIfInBounds_toArray, List.set_cons_zero, List.set_cons_succ]
        refine wpAnyH_take (i := 2) (v := ?vv2) rfl (by kernel_rfl) (by kernel_rfl) (by kernel_rfl) (fun _ _ _ h => h) (Or.inl ⟨by rfl, ?hy2⟩) (by assumption) ?rest2
        case hy2 => (intro w hSw; (try dsimp only at hSw); go_simp; first | done | with_reducible rfl)
        try simp only [Act.put, List.getElem_toArray, List.getElem_cons_succ, List.getElem_cons_zero, List.setIfInBounds_toArray, List.set_cons_zero, List.set_cons_succ]
        refine wpAnyH_take (i := 3) (v := ?vv3) rfl (by kernel_rfl) (by kernel_rfl) (by kernel_rfl) (fun _ _ _ h => h) (Or.inl ⟨by rfl, ?hy3⟩) (by assumption) ?rest3
        case hy3 => (intro w hSw; (try dsimp only at hSw); go_simp; first | done | with_reducible rfl)
        try simp only [Act.put, List.getElem_toArray, List.getElem_cons_succ, List.getElem_cons_zero, List.setIfInBounds_toArray, List.set_cons_zero, List.set_cons_succ]
        refine wpAnyH_take (i := 4) (v := undef) rfl (by kernel_rfl) (by kernel_rfl) (by kernel_rfl) (fun _ _ _ h => h) (Or.inr ⟨by rfl, rfl⟩) (by assumption) ?_
        try simp only [Act.put, List.getElem_toArray, List.getElem_cons_succ, List.getElem_cons_zero, List.setIfInBounds_toArray, List.set_cons_zero, List.set_cons_succ]
        refine wpAnyH_take (i := 5) (v := undef) rfl (by kernel_rfl) (by kernel_rfl) (by kernel_rfl) (fun _ _ _ h => h) (Or.inr ⟨by rfl, rfl⟩) (by assumption) ?_
        try simp only [Act.put, List.getElem_toArray, List.getElem_cons_succ, List.getElem_cons_zero, List.setIfInBounds_toArray, List.set_cons_zero, List.set_cons_succ]
        refine wpAnyH_take (i := 6) (v := undef) rfl (by kernel_rfl) (by kernel_rfl) (by kernel_rfl) (fun _ _ _ h => h) (Or.inr ⟨by rfl, rfl⟩) (by assumption) ?_
        try simp only [Act.put, List.getElem_toArray, List.getElem_cons_succ, List.getElem_cons_zero, List.setIfInBounds_toArray, List.set_cons_zero, List.set_cons_succ]
        refine wpAnyH_take (i := 7) (v := undef) rfl (by kernel_rfl) (by kernel_rfl) (by kernel_rfl) (fun _ _ _ h => h) (Or.inr ⟨by rfl, rfl⟩) (by assumption) ?_
        try simp only [Act.put, List.getElem_toArray, List.getElem_cons_succ, List.getElem_cons_zero, List.setIfInBounds_toArray, List.set_cons_zero, List.set_cons_succ]
        refine wpAnyH_take (i := 8) (v := undef) rfl (by kernel_rfl) (by kernel_rfl) (by kernel_rfl) (fun _ _ _ h => h) (Or.inr ⟨by rfl, rfl⟩) (by assumption) ?_
        try simp only [Act.put, List.getElem_toArray, List.getElem_cons_succ, List.getElem_cons_zero, List.setIfInBounds_toArray, List.set_cons_zero, List.set_cons_succ]
        refine wpAnyH_take (i := 9) (v := undef) rfl (by kernel_rfl) (by kernel_rfl) (by kernel_rfl) (fun _ _ _ h => h) (Or.inr ⟨by rfl, rfl⟩) (by assumption) ?_
        try simp only [Act.put, List.getElem_toArray, List.getElem_cons_succ, List.getElem_cons_zero, List.setIfInBounds_toArray, List.set_cons_zero, List.set_cons_succ]
        refine wpAnyH_take (i := 10) (v := undef) rfl (by kernel_rfl) (by kernel_rfl) (by kernel_rfl) (fun _ _ _ h => h) (Or.inr ⟨by rfl, rfl⟩) (by assumption) ?_
        try simp only [Act.put, List.getElem_toArray, List.getElem_cons_succ, List.getElem_cons_zero, List.setIfInBounds_toArray, List.set_cons_zero, List.set_cons_succ]
        refine wpAnyH_take (i := 11) (v := undef) rfl (by kernel_rfl) (by kernel_rfl) (by kernel_rfl) (fun _ _ _ h => h) (Or.inr ⟨by rfl, rfl⟩) (by assumption) ?_
        try simp only [Act.put, List.getElem_toArray, List.getElem_cons_succ, List.getElem_cons_zero, List.setIfInBounds_toArray, List.set_cons_zero, List.set_cons_succ]
        refine wpAnyH_take (i := 12) (v := undef) rfl (by kernel_rfl) (by kernel_rfl) (by kernel_rfl) (fun _ _ _ h => h) (Or.inr ⟨by rfl, rfl⟩) (by assumption) ?_
        try simp only [Act.put, List.getElem_toArray, List.getElem_cons_succ, List.getElem_cons_zero, List.setIfInBounds_toArray, List.set_cons_zero, List.set_cons_succ]
        refine wpAnyH_take (i := 13) (v := undef) rfl (by kernel_rfl) (by kernel_rfl) (by kernel_rfl) (fun _ _ _ h => h) (Or.inr ⟨by rfl, rfl⟩) (by assumption) ?_
        try simp only [Act.put, List.getElem_toArray, List.getElem_cons_succ, List.getElem_cons_zero, List.setIfInBounds_toArray, List.set_cons_zero, List.set_cons_succ]
        refine wpAnyH_take (i := 14) (v := undef) rfl (by kernel_rfl) (by kernel_rfl) (by kernel_rfl) (fun _ _ _ h => h) (Or.inr ⟨by rfl, rfl⟩) (by assumption) ?_
        try simp only [Act.put, List.getElem_toArray, List.getElem_cons_succ, List.getElem_cons_zero, List.setIfInBounds_toArray, List.set_cons_zero, List.set_cons_succ]
        refine wpAnyH_take (i := 15) (v := undef) rfl (by kernel_rfl) (by kernel_rfl) (by kernel_rfl) (fun _ _ _ h => h) (Or.inr ⟨by rfl, rfl⟩) (by assumption) ?_
        try simp only [Act.put, List.getElem_toArray, List.getElem_cons_succ, List.getElem_cons_zero, List.setIfInBounds_toArray, List.set_cons_zero, List.set_cons_succ]
        refine wpAnyH_take (i := 16) (v := undef) rfl (by kernel_rfl) (by kernel_rfl) (by kernel_rfl) (fun _ _ _ h => h) (Or.inr ⟨by rfl, rfl⟩) (by assumption) ?_
        try simp only [Act.put, List.getElem_toArray, List.getElem_cons_succ, List.getElem_cons_zero, List.setIfInBounds_toArray, List.set_cons_zero, List.set_cons_succ]
        refine wpAnyH_take (i := 17) (v := ?vv4) rfl (by kernel_rfl) (by kernel_rfl) (by kernel_rfl) (fun _ _ _ h => h) (Or.inl ⟨by rfl, ?hy4⟩) (by assumption) ?rest4
        case hy4 => (intro w hSw; (try dsimp only at hSw); go_simp; first | done | with_reducible rfl)
        try simp only [Act.put, List.getElem_toArray, List.getElem_cons_succ, List.getElem_cons_zero, List.setIfInBounds_toArray, List.set_cons_zero, List.set_cons_succ]
        refine wpAnyH_done (by kernel_rfl) ?_ _
        clear hHeld ZC
        go_wp2
        go_ret
        exact ⟨rfl, B5.out.b⟩
    · have hke : k = q.length := by omega
      have hd : decide ((k : Int) < (q.length : Int)) = false := decide_eq_false (by omega)
      have hd2 : decide (k < q.length) = false := decide_eq_false hlt
      have HS : Hid (R = true) := by
        show _ = _
        rw [HR.out, List.drop_eq_nil_of_le (by omega)]; rfl
      have hr := HS.out
      subst hr
      clear HC HR HS HL CK0 hke hlt hk
      go_wp2
      go_ret
      exact ⟨rfl, HB.out⟩
end Go.Proofs.Ytojiahdbgdgdcaa
