/- Joined: Which kept tokens may be: both sides; strings.Compare. Which lists are tables: the program. Which lists are tables: the document. A token's place in a table: the program's search. What a token is: the program's Look. Kept tokens that are copied, and put together: the program's apart, slices.Grow, slices.Concat. Kept tokens that are put together: slices.Grow, slices.Concat. A token is kept: the program's Note. Old tokens are forgotten: the program's Expire. -/
import Derived.Test.YtojiahdbgdgdcaaTkM
import Derived.Lib.Bytealg
import Derived.Lib.AppendZeros
import Derived.Deep.RegionHeld3
import Derived.Test.YtojiahdbgdgdcaaCatM
namespace Go.Proofs.Ytojiahdbgdgdcaa
open Go.RowKit Go.Maps
set_option linter.unusedVariables false
set_option linter.unusedSimpArgs false

set_option maxRecDepth 100000 in
set_option maxHeartbeats 1000000 in
theorem cmpS_any (a b : ByteArray) (w : World) : Calls Try.prog 65 #[.string a, .string b] w fun e w' => e = .returned (.int .i64 (Lib.compareBytes a.data.toList b.data.toList)) ∧ w' = w := by
  go_enter Try.func65, Try.ntmps65
  go_wp2
  rw [run_callFunc_extern Try.func72 (by kernel_rfl) (by kernel_rfl) (by kernel_rfl) (e := Extern.BytealgCompare.compare) (by kernel_rfl), Lib.run_compareString]
  simp only [Result.andThen]
  rw [Oper.upon_value]
  go_wp2
  go_ret
  exact ⟨rfl, rfl⟩
set_option maxRecDepth 100000 in
theorem compare_any (a b : ByteArray) (w : World) : Calls Try.prog 47 #[.string a, .string b] w fun e w' => e = .returned (.int .i64 (Lib.compareBytes a.data.toList b.data.toList)) ∧ w' = w := by
  have H := hid (cmpS_any a b w)
  generalize Lib.compareBytes _ _ = R at *
  go_enter Try.func47, Try.ntmps47
  go_wp2_with fail
  refine H.out.mono ?_
  rintro e w1 ⟨rfl, rfl⟩
  go_wp2
  go_ret
  exact ⟨rfl, rfl⟩
set_option maxRecDepth 100000 in
set_option maxHeartbeats 1000000 in
theorem place1_any (h : Hd) (t : ByteArray) (w : World) : Calls Try.prog 46 #[hdV h, .string t] w fun e w' => e = .returned (.int .i64 (Lib.compareBytes h.tk.data.toList t.data.toList)) ∧ Below w.heap.size w w' := by
  have HC := hid (fun W => compare_any h.tk t W)
  have HB : Hid (∀ X, Below w.heap.size w (w.alloc X)) := fun X => below_al (Below.refl _ _) _
  unfold hdV
  generalize Lib.compareBytes _ _ = R at *
  obtain ⟨tk, su, ou, at_⟩ := h
  simp only at *
  go_enter Try.func46, Try.ntmps46
  go_wp2_with fail
  refine (HC.out _).mono ?_
  rintro e w1 ⟨rfl, rfl⟩
  go_wp2
  go_ret
  exact ⟨rfl, HB.out _⟩
set_option maxRecDepth 100000 in
set_option maxHeartbeats 2000000 in
theorem mayBe_any (h : Hd) (w : World) : Calls Try.prog 26 #[hdV h] w fun e w' => e = .returned (.bool (hdOk h)) ∧ Below w.heap.size w w' := by
  have BM := hid (Bx.made (Below.refl w.heap.size w) [.string h.tk, .string h.su, .string h.ou, .int .i64 h.at_] 31)
  have TK := hid (fun W => ptoken_any h.tk W)
  have DG := hid (fun W => isDigest_any h.su W)
  have HX : Hid (hdOk h = (tokOk h.tk.data.toList && isDg h.su && decide (h.ou.size ≤ 4096) && decide (1 ≤ h.at_) && decide (h.at_ ≤ 1099511627776))) := rfl
  unfold hdV
  generalize hdOk h = R at *
  generalize tokOk _ = TB at *
  generalize isDg h.su = DB at *
  obtain ⟨tk, su, ou, at_⟩ := h
  simp only at *
  have y0 := BM.out.row.cellAt (o := 0) rfl
  go_enter Try.func26, Try.ntmps26
  go_wp2_with fail
  refine (TK.out _).mono ?_
  rintro e w1 ⟨rfl, rfl⟩
  cases TB
  · have hr : R = false := HX.out
    subst hr
    clear HX DG TK y0
    go_wp2
    go_ret
    exact ⟨rfl, BM.out.b⟩
  have y1 := BM.out.row.cellAt (o := 1) rfl
  go_wp2_with fail
  refine (DG.out _).mono ?_
  rintro e w2 ⟨rfl, b2⟩
  have B2 := hid (BM.out.next b2)
  clear DG TK BM y0 y1 b2
  cases DB
  · have hr : R = false := HX.out
    subst hr
    clear HX
    go_wp2
    go_ret
    exact ⟨rfl, B2.out.b⟩
  have y2 := B2.out.row.cellAt (o := 2) rfl
  by_cases ho : ou.size ≤ 4096
  case neg =>
    have g1 : decide (ou.size ≤ 4096) = false := decide_eq_false ho
    have g2 : decide ((ou.size : Int) ≤ 4096) = false := decide_eq_false (by omega)
    have hr : R = false := by rw [HX.out, g1]; rfl
    subst hr
    clear HX ho
    go_wp2
    go_ret
    exact ⟨rfl, B2.out.b⟩
  have g1 : decide (ou.size ≤ 4096) = true := decide_eq_true ho
  have g2 : decide ((ou.size : Int) ≤ 4096) = true := decide_eq_true (by omega)
  have y3 := B2.out.row.cellAt (o := 3) rfl
  by_cases h1 : 1 ≤ at_
  case neg =>
    have g3 : decide (1 ≤ at_) = false := decide_eq_false h1
    have hr : R = false := by rw [HX.out, g1, g3]; rfl
    subst hr
    clear HX ho h1
    go_wp2
    go_ret
    exact ⟨rfl, B2.out.b⟩
  have g3 : decide (1 ≤ at_) = true := decide_eq_true h1
  have hr : R = decide (at_ ≤ 1099511627776) := by rw [HX.out, g1, g3]; rfl
  subst hr
  clear HX ho h1
  go_wp2
  go_ret
  exact ⟨rfl, B2.out.b⟩
set_option maxRecDepth 100000 in
set_option maxHeartbeats 2000000 in
theorem one15_any (h : Hd) (w : World) (ht : h.tk.size ≤ 140737488355328) (hs : h.su.size ≤ 140737488355328) : Calls Try.prog 29 #[hdV h] w fun e w' => e = .returned (.bool (hdOk h)) ∧ Below w.heap.size w w' := by
  have BM := hid (Bx.made (Below.refl w.heap.size w) [.string h.tk, .string h.su, .string h.ou, .int .i64 h.at_] 37)
  have TK := hid (fun W => rtoken_any h.tk W ht)
  have DG := hid (fun W => rmay6_any h.su W hs)
  have HX : Hid (hdOk h = (tokOk h.tk.data.toList && isDg h.su && decide (h.ou.size ≤ 4096) && decide (1 ≤ h.at_) && decide (h.at_ ≤ 1099511627776))) := rfl
  unfold hdV
  generalize hdOk h = R at *
  generalize tokOk _ = TB at *
  generalize isDg h.su = DB at *
  obtain ⟨tk, su, ou, at_⟩ := h
  simp only at *
  have y0 := BM.out.row.cellAt (o := 0) rfl
  go_enter Try.func29, Try.ntmps29
  go_wp2_with fail
  refine (TK.out _).mono ?_
  rintro e w1 ⟨rfl, rfl⟩
  cases TB
  · have hr : R = false := HX.out
    subst hr
    clear HX DG TK y0
    go_wp2
    go_ret
    exact ⟨rfl, BM.out.b⟩
  have y1 := BM.out.row.cellAt (o := 1) rfl
  go_wp2_with fail
  refine (DG.out _).mono ?_
  rintro e w2 ⟨rfl, b2⟩
  have B2 := hid (BM.out.next b2)
  clear DG TK BM y0 y1 b2
  cases DB
  · have hr : R = false := HX.out
    subst hr
    clear HX
    go_wp2
    go_ret
    exact ⟨rfl, B2.out.b⟩
  have y2 := B2.out.row.cellAt (o := 2) rfl
  by_cases ho : ou.size ≤ 4096
  case neg =>
    have g1 : decide (ou.size ≤ 4096) = false := decide_eq_false ho
    have g2 : decide ((ou.size : Int) ≤ 4096) = false := decide_eq_false (by omega)
    have hr : R = false := by rw [HX.out, g1]; rfl
    subst hr
    clear HX ho
    go_wp2
    go_ret
    exact ⟨rfl, B2.out.b⟩
  have g1 : decide (ou.size ≤ 4096) = true := decide_eq_true ho
  have g2 : decide ((ou.size : Int) ≤ 4096) = true := decide_eq_true (by omega)
  have y3 := B2.out.row.cellAt (o := 3) rfl
  by_cases h1 : 1 ≤ at_
  case neg =>
    have g3 : decide (1 ≤ at_) = false := decide_eq_false h1
    have hr : R = false := by rw [HX.out, g1, g3]; rfl
    subst hr
    clear HX ho h1
    go_wp2
    go_ret
    exact ⟨rfl, B2.out.b⟩
  have g3 : decide (1 ≤ at_) = true := decide_eq_true h1
  have hr : R = decide (at_ ≤ 1099511627776) := by rw [HX.out, g1, g3]; rfl
  subst hr
  clear HX ho h1
  go_wp2
  go_ret
  exact ⟨rfl, B2.out.b⟩
end Go.Proofs.Ytojiahdbgdgdcaa
namespace Go.Proofs.Ytojiahdbgdgdcaa
open Go.RowKit Go.Maps
set_option linter.unusedVariables false
set_option linter.unusedSimpArgs false

theorem tb_bad {q : List Hd} {R : Bool} {k : Nat} (hk : k < q.length) (hR : R = tbF (prevH q k) (q.drop k)) (h : hdOk q[k] = false ∨ hdAbove (prevH q k) q[k].tk = false) : R = false := by
  rw [hR, tbF_at q k hk]
  rcases h with h | h
  · rw [h]; rfl
  · rw [h]; simp
theorem tb_go {q : List Hd} {R : Bool} {k : Nat} (hk : k < q.length) (hR : R = tbF (prevH q k) (q.drop k)) (h1 : hdOk q[k] = true) (h2 : hdAbove (prevH q k) q[k].tk = true) : R = tbF (prevH q (k + 1)) (q.drop (k + 1)) := by
  rw [hR, tbF_at q k hk, h1, h2]; rfl
set_option maxRecDepth 100000 in
set_option maxHeartbeats 2000000 in
theorem isTable_any (v : Value) (q : List Hd) (w : World) (hv : HdI w v q) : Calls Try.prog 21 #[v] w fun e w' => e = .returned (.bool (isTb q)) ∧ Below w.heap.size w w' := by
  obtain ⟨ad, cap, rfl, hc⟩ := hv.form
  by_cases h5 : 64 < q.length
  · have h5i : decide (64 < (q.length : Int)) = true := decide_eq_true (by omega)
    have h5j : decide (64 < q.length) = true := decide_eq_true h5
    have hr : isTb q = false := by unfold isTb; rw [decide_eq_false (by omega)]; rfl
    rw [hr]
    clear hc hv h5 hr
    go_enter Try.func21, Try.ntmps21
    go_wp2
    go_ret
    exact ⟨rfl, Below.refl _ _⟩
  have h5i : decide (64 < (q.length : Int)) = false := decide_eq_false (by omega)
  have h5j : decide (64 < q.length) = false := decide_eq_false h5
  have HL : Hid (q.length ≤ 64) := by show _ ≤ _; omega
  have HR0 : Hid (isTb q = tbF (prevH q 0) (q.drop 0)) := by
    show _ = _
    unfold isTb
    rw [decide_eq_true HL.out]
    simp [prevH]
  have HC := hid hc
  have CK0 := hid (fun x W => mayBe_any x W)
  generalize isTb q = R at *
  clear hc hv h5
  go_enter Try.func21, Try.ntmps21
  go_wp2
  go_loopw [10] (fun i wr => ∃ (k : Nat), k ≤ q.length ∧ i = .int .i64 (k : Int) ∧ Hid (Below w.heap.size w wr) ∧ Hid (R = tbF (prevH q k) (q.drop k))) (fun i _ => q.length - (intOf i).toNat)
  case atStart => exact ⟨0, Nat.zero_le _, rfl, Below.refl _ _, HR0⟩
  case round =>
    clear h5i h5j HR0
    obtain ⟨k, hk, rfl, HB, HR⟩ := hrel
    by_cases hlt : k < q.length
    · have hk1 : (k : Int) < (q.length : Int) := by omega
      have hk0 : (0 : Int) ≤ (k : Int) := by omega
      have hwk : wrap64 ((k : Int) + 1) = ((k + 1 : Nat) : Int) := by have := HL.out; rw [IntWalk.wrap64_in _ (by omega)]; omega
      obtain ⟨b, off, rfl, hb, c0, c1, c2, c3⟩ := HC.out k hlt
      have d0 := (HB.out.cell (p := ⟨b, off + k * 4, none⟩) hb).trans c0
      have d1 := (HB.out.cell (p := ⟨b, off + k * 4 + 1, none⟩) hb).trans c1
      have d2 := (HB.out.cell (p := ⟨b, off + k * 4 + 2, none⟩) hb).trans c2
      have d3 := (HB.out.cell (p := ⟨b, off + k * 4 + 3, none⟩) hb).trans c3
      have HBAD := hid (tb_bad hlt HR.out)
      have HGO := hid (tb_go hlt HR.out)
      have HPV : Hid (k = 0 ∧ prevH q k = none ∨ ∃ (m : Nat) (pi : ByteArray), k = m + 1 ∧ prevH q k = some pi ∧ ∀ W, Below w.heap.size w W → W.cell? ⟨b, off + m * 4, none⟩ = some (.string pi)) := by
        cases k with
        | zero => exact .inl ⟨rfl, rfl⟩
        | succ m =>
          obtain ⟨b', off', e, hb', c0', _⟩ := HC.out m (by omega)
          injection e with e
          injection e with e1 e2
          subst e1 e2
          exact .inr ⟨m, _, rfl, prevH_succ q m (by omega), fun W hW => (hW.cell (p := ⟨b, off + m * 4, none⟩) hb').trans c0'⟩
      have HX : Hid (∀ W, Bx w wr.heap.size [.string q[k].tk, .string q[k].su, .string q[k].ou, .int .i64 q[k].at_] 31 W → Calls Try.prog 26 #[.agg #[.string q[k].tk, .string q[k].su, .string q[k].ou, .int .i64 q[k].at_]] W fun e w' => e = .returned (.bool (hdOk q[k])) ∧ (w'.cell? ⟨wr.heap.size, 0, none⟩ = some (.string q[k].tk) ∧ w'.cell? ⟨wr.heap.size, 1, none⟩ = some (.string q[k].su) ∧ w'.cell? ⟨wr.heap.size, 2, none⟩ = some (.string q[k].ou) ∧ w'.cell? ⟨wr.heap.size, 3, none⟩ = some (.int .i64 q[k].at_)) ∧ Hid (Bx w wr.heap.size [.string q[k].tk, .string q[k].su, .string q[k].ou, .int .i64 q[k].at_] 31 w')) := fun W hW => (CK0.out q[k] W).mono fun e w' ⟨he, hb⟩ => ⟨he, ⟨(hW.next hb).row.cellAt rfl, (hW.next hb).row.cellAt rfl, (hW.next hb).row.cellAt rfl, (hW.next hb).row.cellAt rfl⟩, hW.next hb⟩
      have BM := hid (Bx.made HB.out [.string q[k].tk, .string q[k].su, .string q[k].ou, .int .i64 q[k].at_] 31)
      have HLT := hid hlt
      have hkL : (k : Int) < 65 := by have := HL.out; omega
      clear HC HR c0 c1 c2 c3 HL CK0 hb HB
      generalize hok : hdOk q[k] = OK at *
      generalize q[k] = y at *
      clear hok
      obtain ⟨tk, su, ou, at_⟩ := y
      simp only at *
      generalize prevH q k = PV at *
      have y0 := BM.out.row.cellAt (o := 0) rfl
      have y1 := BM.out.row.cellAt (o := 1) rfl
      have y2 := BM.out.row.cellAt (o := 2) rfl
      have y3 := BM.out.row.cellAt (o := 3) rfl
      cases OK
      case true =>
        rcases HPV.out with ⟨hz, rfl⟩ | ⟨m, pi, hz, rfl, hpi⟩
        · have HG := hid (HGO.out rfl rfl)
          have g1 : decide (0 < (k : Int)) = false := decide_eq_false (by omega)
          have g2 : decide (0 < k) = false := decide_eq_false (by omega)
          clear HBAD HGO HPV hk hlt hz
          go_wp2
          refine wp_region_held_drew (S := (fun w' => w'.cell? ⟨wr.heap.size, 0, none⟩ = some (.string tk) ∧ w'.cell? ⟨wr.heap.size, 1, none⟩ = some (.string su) ∧ w'.cell? ⟨wr.heap.size, 2, none⟩ = some (.string ou) ∧ w'.cell? ⟨wr.heap.size, 3, none⟩ = some (.int .i64 at_))) (by kernel_rfl) ⟨y0, y1, y2, y3⟩ (fun hHeld => ?_)
          refine wpAnyH_take (i := 0) (v := ?vv5) rfl (by kernel_rfl) (by kernel_rfl) (by kernel_rfl) (fun _ _ _ h => h) (Or.inl ⟨by rfl, ?hy5⟩) (by assumption) ?rest5
          case hy5 => (intro w hSw; (try dsimp only at hSw); go_simp; first | done | with_reducible rfl)
          try simp only [Act.put, List.getElem_toArray, List.getElem_cons_succ, List.getElem_cons_zero, List.setIfInBounds_toArray, List.set_cons_zero, List.set_cons_succ]
          refine wpAnyH_ready (rs := [1]) (by kernel_rfl) (by simp) ?_
          refine AllReadyH.cons rfl (fun K hK => ?_) AllReadyH.nil
          go_simp
          refine (HX.out _ BM.out.drew).mono ?_
          rintro e w5 ⟨rfl, ZC, B5⟩
          go_wp2_with fail
          refine hK.out _ _ ZC (fun hHeld => ?_)
          clear hK K
          try simp only [Act.put, List.getElem_toArray, List.getElem_cons_succ, List.getElem_cons_zero, List.setIfInBounds_toArray, List.set_cons_zero, List.set_cons_succ]
          refine wpAnyH_take (i := 2) (v := ?vv6) rfl (by kernel_rfl) (by kernel_rfl) (by kernel_rfl) (fun _ _ _ h => h) (Or.inl ⟨by rfl, ?hy6⟩) (by assumption) ?rest6
          case hy6 => (intro w hSw; (try dsimp only at hSw); go_simp; first | done | with_reducible rfl)
          try simp only [Act.put, List.getElem_toArray, List.getElem_cons_succ, List.getElem_cons_zero, List.setIfInBounds_toArray, List.set_cons_zero, List.set_cons_succ]
          refine wpAnyH_take (i := 3) (v := ?vv7) rfl (by kernel_rfl) (by kernel_rfl) (by kernel_rfl) (fun _ _ _ h => h) (Or.inl ⟨by rfl, ?hy7⟩) (by assumption) ?rest7
          case hy7 => (intro w hSw; (try dsimp only at hSw); go_simp; first | done | with_reducible rfl)
          try simp only [Act.put, List.getElem_toArray, List.getElem_cons_succ, List.getElem_cons_zero, List.setIfInBounds_toArray, List.set_cons_zero, List.set_cons_succ]
          refine wpAnyH_take (i := 4) (v := ?vv8) rfl (by kernel_rfl) (by kernel_rfl) (by kernel_rfl) (fun _ _ _ h => h) (Or.inl ⟨by rfl, ?hy8⟩) (by assumption) ?rest8
          case hy8 => (intro w hSw; (try dsimp only at hSw); go_simp; first | done | with_reducible rfl)
          try simp only [Act.put, List.getElem_toArray, List.getElem_cons_succ, List.getElem_cons_zero, List.setIfInBounds_toArray, List.set_cons_zero, List.set_cons_succ]
          refine wpAnyH_take (i := 5) (v := ?vv9) rfl (by kernel_rfl) (by kernel_rfl) (by kernel_rfl) (fun _ _ _ h => h) (Or.inl ⟨by rfl, ?hy9⟩) (by assumption) ?rest9
          case hy9 => (intro w hSw; (try dsimp only at hSw); go_simp; first | done | with_reducible rfl)
          try simp only [Act.put, List.getElem_toArray, List.getElem_cons_succ, List.getElem_cons_zero, List.setIfInBounds_toArray, List.set_cons_zero, List.set_cons_succ]
          refine wpAnyH_take (i := 6) (v := ?vv10) rfl (by kernel_rfl) (by kernel_rfl) (by kernel_rfl) (fun _ _ _ h => h) (Or.inl ⟨by rfl, ?hy10⟩) (by assumption) ?rest10
          case hy10 => (intro w hSw; (try dsimp only at hSw); go_simp; first | done | with_reducible rfl)
          try simp only [Act.put, List.getElem_toArray, List.getElem_cons_succ, List.getElem_cons_zero, List.setIfInBounds_toArray, List.set_cons_zero, List.set_cons_succ]
          refine wpAnyH_take (i := 7) (v := undef) rfl (by kernel_rfl) (by kernel_rfl) (by kernel_rfl) (fun _ _ _ h => h) (Or.inr ⟨by rfl, rfl⟩) (by assumption) ?_
          try simp only [Act.put, List.getElem_toArray, List.getElem_cons_succ, List.getElem_cons_zero, List.setIfInBounds_toArray, List.set_cons_zero, List.set_cons_succ]
          refine wpAnyH_take (i := 8) (v := undef) rfl (by kernel_rfl) (by kernel_rfl) (by kernel_rfl) (fun _ _ _ h => h) (Or.inr ⟨by rfl, rfl⟩) (by assumption) ?_
          try simp only [Act.put, List.getElem_toArray, List.getElem_cons_succ, List.getElem_cons_zero, List.setIfInBounds_toArray, List.set_cons_zero, List.set_cons_succ]
          refine wpAnyH_take (i := 9) (v := undef) rfl (by kernel_rfl) (by kernel_rfl) (by kernel_rfl) (fun _ _ _ h => h) (Or.inr ⟨by rfl, rfl⟩) (by assumption) ?_
          try simp only [Act.put, List.getElem_toArray, List.getElem_cons_succ, List.getElem_cons_zero, List.setIfInBounds_toArray, List.set_cons_zero, List.set_cons_succ]
          refine wpAnyH_take (i := 10) (v := undef) rfl (by kernel_rfl) (by kernel_rfl) (by kernel_rfl) (fun _ _ _ h => h) (Or.inr ⟨by rfl, rfl⟩) (by assumption) ?_
          try simp only [Act.put, List.getElem_toArray, List.getElem_cons_succ, List.getElem_cons_zero, List.setIfInBounds_toArray, List.set_cons_zero, List.set_cons_succ]
          refine wpAnyH_take (i := 11) (v := undef) rfl (by kernel_rfl) (by kernel_rfl) (by kernel_rfl) (fun _ _ _ h => h) (Or.inr ⟨by rfl, rfl⟩) (by assumption) ?_
          try simp only [Act.put, List.getElem_toArray, List.getElem_cons_succ, List.getElem_cons_zero, List.setIfInBounds_toArray, List.set_cons_zero, List.set_cons_succ]
          refine wpAnyH_take (i := 12) (v := undef) rfl (by kernel_rfl) (by kernel_rfl) (by kernel_rfl) (fun _ _ _ h => h) (Or.inr ⟨by rfl, rfl⟩) (by assumption) ?_
          try simp only [Act.put, List.getElem_toArray, List.getElem_cons_succ, List.getElem_cons_zero, List.setIfInBounds_toArray, List.set_cons_zero, List.set_cons_succ]
          refine wpAnyH_take (i := 13) (v := undef) rfl (by kernel_rfl) (by kernel_rfl) (by kernel_rfl) (fun _ _ _ h => h) (Or.inr ⟨by rfl, rfl⟩) (by assumption) ?_
          try simp only [Act.put, List.getElem_toArray, List.getElem_cons_succ, List.getElem_cons_zero, List.setIfInBounds_toArray, List.set_cons_zero, List.set_cons_succ]
          refine wpAnyH_take (i := 14) (v := undef) rfl (by kernel_rfl) (by kernel_rfl) (by kernel_rfl) (fun _ _ _ h => h) (Or.inr ⟨by rfl, rfl⟩) (by assumption) ?_
          try simp only [Act.put, List.getElem_toArray, List.getElem_cons_succ, List.getElem_cons_zero, List.setIfInBounds_toArray, List.set_cons_zero, List.set_cons_succ]
          refine wpAnyH_take (i := 15) (v := undef) rfl (by kernel_rfl) (by kernel_rfl) (by kernel_rfl) (fun _ _ _ h => h) (Or.inr ⟨by rfl, rfl⟩) (by assumption) ?_
          try simp only [Act.put, List.getElem_toArray, List.getElem_cons_succ, List.getElem_cons_zero, List.setIfInBounds_toArray, List.set_cons_zero, List.set_cons_succ]
          refine wpAnyH_take (i := 16) (v := ?vv11) rfl (by kernel_rfl) (by kernel_rfl) (by kernel_rfl) (fun _ _ _ h => h) (Or.inl ⟨by rfl, ?hy11⟩) (by assumption) ?rest11
          case hy11 => (intro w hSw; (try dsimp only at hSw); go_simp; first | done | with_reducible rfl)
          try simp only [Act.put, List.getElem_toArray, List.getElem_cons_succ, List.getElem_cons_zero, List.setIfInBounds_toArray, List.set_cons_zero, List.set_cons_succ]
          refine wpAnyH_take (i := 17) (v := ?vv12) rfl (by kernel_rfl) (by kernel_rfl) (by kernel_rfl) (fun _ _ _ h => h) (Or.inl ⟨by rfl, ?hy12⟩) (by assumption) ?rest12
          case hy12 => (intro w hSw; (try dsimp only at hSw); go_simp; first | done | with_reducible rfl)
          try simp only [Act.put, List.getElem_toArray, List.getElem_cons_succ, List.getElem_cons_zero, List.setIfInBounds_toArray, List.set_cons_zero, List.set_cons_succ]
          refine wpAnyH_done (by kernel_rfl) ?_ _
          clear hHeld ZC
          go_wp2
          exact ⟨⟨k + 1, HLT.out, by first | rw [hwk] | rfl | simp, B5.out.b, HG⟩, by (try rw [hwk]); have := HLT.out; simp [intOf]; omega⟩
        · have g1 : decide (0 < (k : Int)) = true := decide_eq_true (by omega)
          have g2 : decide (0 < k) = true := decide_eq_true (by omega)
          have hw1 : wrap64 ((k : Int) - 1) = (m : Int) := by rw [IntWalk.wrap64_in _ (by omega)]; omega
          have hw2 : IntKind.i64.wrap ((k : Int) - 1) = (m : Int) := by rw [IntKind.wrap_i64]; omega
          have hm0 : (0 : Int) ≤ (m : Int) := by omega
          have hm1 : (m : Int) < (q.length : Int) := by omega
          have HPI := hid hpi
          have yp := HPI.out _ BM.out.b
          have HX2 : Hid (∀ W, Bx w wr.heap.size [.string tk, .string su, .string ou, .int .i64 at_] 31 W → Calls Try.prog 26 #[.agg #[.string tk, .string su, .string ou, .int .i64 at_]] W fun e w' => e = .returned (.bool true) ∧ ((w'.cell? ⟨wr.heap.size, 0, none⟩ = some (.string tk) ∧ w'.cell? ⟨wr.heap.size, 1, none⟩ = some (.string su) ∧ w'.cell? ⟨wr.heap.size, 2, none⟩ = some (.string ou) ∧ w'.cell? ⟨wr.heap.size, 3, none⟩ = some (.int .i64 at_)) ∧ w'.cell? ⟨b, off + m * 4, none⟩ = some (.string pi)) ∧ Hid (Bx w wr.heap.size [.string tk, .string su, .string ou, .int .i64 at_] 31 w')) := fun W hW => (HX.out W hW).mono fun e w' ⟨he, hz, hb⟩ => ⟨he, ⟨hz, HPI.out _ hb.out.b⟩, hb⟩
          cases hge : bb pi tk
          case false =>
            have g3 : (Op.bytesLess tk.toList pi.toList || tk.toList == pi.toList) = true := by rw [bb_le, hge]; rfl
            have hr := HBAD.out (.inr (show bb pi tk = false from hge))
            subst hr
            clear HBAD HGO HPV hk hlt hz hpi HX hge
            go_wp2
            go_region_held3 (fun w' => (w'.cell? ⟨wr.heap.size, 0, none⟩ = some (.string tk) ∧ w'.cell? ⟨wr.heap.size, 1, none⟩ = some (.string su) ∧ w'.cell? ⟨wr.heap.size, 2, none⟩ = some (.string ou) ∧ w'.cell? ⟨wr.heap.size, 3, none⟩ = some (.int .i64 at_)) ∧ w'.cell? ⟨b, off + m * 4, none⟩ = some (.string pi)) (first | exact ⟨⟨y0, y1, y2, y3⟩, yp⟩ | with_reducible assumption) (first | (go_at_call 26; with_reducible (refine (HX2.out _ ?_).mono ?_); (exact BM.out.drew); rintro e w5 ⟨rfl, ZC, B5⟩))
            clear ZC
            go_wp2
            go_ret
            exact ⟨rfl, B5.out.b⟩
          case true =>
            have g3 : (Op.bytesLess tk.toList pi.toList || tk.toList == pi.toList) = false := by rw [bb_le, hge]; rfl
            have HG := hid (HGO.out rfl (show bb pi tk = true from hge))
            clear HBAD HGO HPV hk hlt hz hpi HX hge
            go_wp2
            go_region_held3 (fun w' => (w'.cell? ⟨wr.heap.size, 0, none⟩ = some (.string tk) ∧ w'.cell? ⟨wr.heap.size, 1, none⟩ = some (.string su) ∧ w'.cell? ⟨wr.heap.size, 2, none⟩ = some (.string ou) ∧ w'.cell? ⟨wr.heap.size, 3, none⟩ = some (.int .i64 at_)) ∧ w'.cell? ⟨b, off + m * 4, none⟩ = some (.string pi)) (first | exact ⟨⟨y0, y1, y2, y3⟩, yp⟩ | with_reducible assumption) (first | (go_at_call 26; with_reducible (refine (HX2.out _ ?_).mono ?_); (exact BM.out.drew); rintro e w5 ⟨rfl, ZC, B5⟩))
            clear ZC
            go_wp2
            exact ⟨⟨k + 1, HLT.out, by first | rw [hwk] | rfl | simp, B5.out.b, HG⟩, by (try rw [hwk]); have := HLT.out; simp [intOf]; omega⟩
      case false =>
        have hr := HBAD.out (.inl rfl)
        subst hr
        clear HBAD HGO HPV hk hlt
        go_wp2
        refine wp_region_held_drew (S := (fun w' => w'.cell? ⟨wr.heap.size, 0, none⟩ = some (.string tk) ∧ w'.cell? ⟨wr.heap.size, 1, none⟩ = some (.string su) ∧ w'.cell? ⟨wr.heap.size, 2, none⟩ = some (.string ou) ∧ w'.cell? ⟨wr.heap.size, 3, none⟩ = some (.int .i64 at_))) (by kernel_rfl) ⟨y0, y1, y2, y3⟩ (fun hHeld => ?_)
        refine wpAnyH_take (i := 0) (v := ?vv1) rfl (by kernel_rfl) (by kernel_rfl) (by kernel_rfl) (fun _ _ _ h => h) (Or.inl ⟨by rfl, ?hy1⟩) (by assumption) ?rest1
        case hy1 => (intro w hSw; (try dsimp only at hSw); go_simp; first | done | with_reducible rfl)
        try simp only [Act.put, List.getElem_toArray, List.getElem_cons_succ, List.getElem_cons_zero, List.setIfInBounds_toArray, List.set_cons_zero, List.set_cons_succ]
        refine wpAnyH_ready (rs := [1]) (by kernel_rfl) (by simp) ?_
        refine AllReadyH.cons rfl (fun K hK => ?_) AllReadyH.nil
        go_simp
        refine (HX.out _ BM.out.drew).mono ?_
        rintro e w5 ⟨rfl, ZC, B5⟩
        go_wp2_with fail
        refine hK.out _ _ ZC (fun hHeld => ?_)
        clear hK K
        try simp only [Act.put, List.getElem_toArray, List.getElem_cons_succ, List.getElem_cons_zero, List.setIfInBounds_toArray, List.set_cons_zero, List.set_cons_succ]
        refine wpAnyH_take (i := 2) (v := ?vv2) rfl (by kernel_rfl) (by kernel_rfl) (by kernel_rfl) (fun _ _ _ h => h) (Or.inl ⟨by rfl, ?hy2⟩) (by assumption) ?rest2
        case hy2 => (intro w hSw; (try dsimp only at hSw); go_simp; first | done | with_reducible rfl)
        try simp only [Act.put, List.getElem_toArray, List.getElem_cons_succ, List.getElem_cons_zero, List.setIfInBounds_toArray, List.set_cons_zero, List.set_cons_succ]
        refine wpAnyH_take (i := 3) (v := ?vv3) rfl (by kernel_rfl) (by kernel_rfl) (by kernel_rfl) (fun _ _ _ h => h) (Or.inl ⟨by rfl, ?hy3⟩) (by assumption) ?rest3
        case hy3 => (intro w hSw; (try dsimp only at hSw); go_simp; first | done | with_reducible rfl)
        try simp only [Act.put, List.getElem_toArray, List.getElem_cons_succ, List.getElem_cons_zero, List.setIfInBounds_toArray, List.set_cons_zero, List.set_cons_succ]
        refine wpAnyH_take (i := 4) (v := undef) rfl (by kernel_rfl) (by kernel_rfl) (by kernel_rfl) (fun _ _ _ h => h) (Or.inr ⟨by rfl, rfl⟩) (by assumption) ?_
        try simp only [Act.put, List.getElem_toArray, List.getElem_cons_succ, List.getElem_cons_zero, List.setIfInBounds_toArray, List.set_cons_zero, List.set_cons_succ]
        refine wpAnyH_take (i := 5) (v := undef) rfl (by kernel_rfl) (by kernel_rfl) (by kernel_rfl) (fun _ _ _ h => h) (Or.inr ⟨by rfl, rfl⟩) (by assumption) ?_
        try simp only [Act.put, List.getElem_toArray, List.getElem_cons_succ, List.getElem_cons_zero, List.setIfInBounds_toArray, List.set_cons_zero, List.set_cons_succ]
        refine wpAnyH_take (i := 6) (v := undef) rfl (by kernel_rfl) (by kernel_rfl) (by kernel_rfl) (fun _ _ _ h => h) (Or.inr ⟨by rfl, rfl⟩) (by assumption) ?_
        try simp only [Act.put, List.getElem_toArray, List.getElem_cons_succ, List.getElem_cons_zero, List.setIfInBounds_toArray, List.set_cons_zero, List.set_cons_succ]
        refine wpAnyH_take (i := 7) (v := undef) rfl (by kernel_rfl) (by kernel_rfl) (by kernel_rfl) (fun _ _ _ h => h) (Or.inr ⟨by rfl, rfl⟩) (by assumption) ?_
        try simp only [Act.put, List.getElem_toArray, List.getElem_cons_succ, List.getElem_cons_zero, List.setIfInBounds_toArray, List.set_cons_zero, List.set_cons_succ]
        refine wpAnyH_take (i := 8) (v := undef) rfl (by kernel_rfl) (by kernel_rfl) (by kernel_rfl) (fun _ _ _ h => h) (Or.inr ⟨by rfl, rfl⟩) (by assumption) ?_
        try simp only [Act.put, List.getElem_toArray, List.getElem_cons_succ, List.getElem_cons_zero, List.setIfInBounds_toArray, List.set_cons_zero, List.set_cons_succ]
        refine wpAnyH_take (i := 9) (v := undef) rfl (by kernel_rfl) (by kernel_rfl) (by kernel_rfl) (fun _ _ _ h => h) (Or.inr ⟨by rfl, rfl⟩) (by assumption) ?_
        try simp only [Act.put, List.getElem_toArray, List.getElem_cons_succ, List.getElem_cons_zero, List.setIfInBounds_toArray, List.set_cons_zero, List.set_cons_succ]
        refine wpAnyH_take (i := 10) (v := undef) rfl (by kernel_rfl) (by kernel_rfl) (by kernel_rfl) (fun _ _ _ h => h) (Or.inr ⟨by rfl, rfl⟩) (by assumption) ?_
        try simp only [Act.put, List.getElem_toArray, List.getElem_cons_succ, List.getElem_cons_zero, List.setIfInBounds_toArray, List.set_cons_zero, List.set_cons_succ]
        refine wpAnyH_take (i := 11) (v := undef) rfl (by kernel_rfl) (by kernel_rfl) (by kernel_rfl) (fun _ _ _ h => h) (Or.inr ⟨by rfl, rfl⟩) (by assumption) ?_
        try simp only [Act.put, List.getElem_toArray, List.getElem_cons_succ, List.getElem_cons_zero, List.setIfInBounds_toArray, List.set_cons_zero, List.set_cons_succ]
        refine wpAnyH_take (i := 12) (v := undef) rfl (by kernel_rfl) (by kernel_rfl) (by kernel_rfl) (fun _ _ _ h => h) (Or.inr ⟨by rfl, rfl⟩) (by assumption) ?_
        try simp only [Act.put, List.getElem_toArray, List.getElem_cons_succ, List.getElem_cons_zero, List.setIfInBounds_toArray, List.set_cons_zero, List.set_cons_succ]
        refine wpAnyH_take (i := 13) (v := undef) rfl (by kernel_rfl) (by kernel_rfl) (by kernel_rfl) (fun _ _ _ h => h) (Or.inr ⟨by rfl, rfl⟩) (by assumption) ?_
        try simp only [Act.put, List.getElem_toArray, List.getElem_cons_succ, List.getElem_cons_zero, List.setIfInBounds_toArray, List.set_cons_zero, List.set_cons_succ]
        refine wpAnyH_take (i := 14) (v := undef) rfl (by kernel_rfl) (by kernel_rfl) (by kernel_rfl) (fun _ _ _ h => h) (Or.inr ⟨by rfl, rfl⟩) (by assumption) ?_
        try simp only [Act.put, List.getElem_toArray, List.getElem_cons_succ, List.getElem_cons_zero, List.setIfInBounds_toArray, List.set_cons_zero, List.set_cons_succ]
        refine wpAnyH_take (i := 15) (v := undef) rfl (by kernel_rfl) (by kernel_rfl) (by kernel_rfl) (fun _ _ _ h => h) (Or.inr ⟨by rfl, rfl⟩) (by assumption) ?_
        try simp only [Act.put, List.getElem_toArray, List.getElem_cons_succ, List.getElem_cons_zero, List.setIfInBounds_toArray, List.set_cons_zero, List.set_cons_succ]
        refine wpAnyH_take (i := 16) (v := undef) rfl (by kernel_rfl) (by kernel_rfl) (by kernel_rfl) (fun _ _ _ h => h) (Or.inr ⟨by rfl, rfl⟩) (by assumption) ?_
        try simp only [Act.put, List.getElem_toArray, List.getElem_cons_succ, List.getElem_cons_zero, List.setIfInBounds_toArray, List.set_cons_zero, List.set_cons_succ]
        refine wpAnyH_take (i := 17) (v := ?vv4) rfl (by kernel_rfl) (by kernel_rfl) (by kernel_rfl) (fun _ _ _ h => h) (Or.inl ⟨by rfl, ?hy4⟩) (by assumption) ?rest4
        case hy4 => (intro w hSw; (try dsimp only at hSw); go_simp; first | done | with_reducible rfl)
        try simp only [Act.put, List.getElem_toArray, List.getElem_cons_succ, List.getElem_cons_zero, List.setIfInBounds_toArray, List.set_cons_zero, List.set_cons_succ]
        refine wpAnyH_done (by kernel_rfl) ?_ _
        clear hHeld ZC
        go_wp2
        go_ret
        exact ⟨rfl, B5.out.b⟩
    · have hke : k = q.length := by omega
      have hd : decide ((k : Int) < (q.length : Int)) = false := decide_eq_false (by omega)
      have hd2 : decide (k < q.length) = false := decide_eq_false hlt
      have HS : Hid (R = true) := by
        show _ = _
        rw [HR.out, List.drop_eq_nil_of_le (by omega)]; rfl
      have hr := HS.out
      subst hr
      clear HC HR HS HL CK0 hke hlt hk
      go_wp2
      go_ret
      exact ⟨rfl, HB.out⟩
end Go.Proofs.Ytojiahdbgdgdcaa
namespace Go.Proofs.Ytojiahdbgdgdcaa
open Go.RowKit Go.Maps
set_option linter.unusedVariables false
set_option linter.unusedSimpArgs false

set_option maxRecDepth 100000 in
set_option maxHeartbeats 2000000 in
theorem may15_any (v : Value) (q : List Hd) (w : World) (hv : HdI w v q) (hl : q.length ≤ 8796093022208) (hs : ∀ y ∈ q, y.tk.size ≤ 140737488355328 ∧ y.su.size ≤ 140737488355328) : Calls Try.prog 24 #[v] w fun e w' => e = .returned (.bool (isTb q)) ∧ Below w.heap.size w w' := by
  obtain ⟨ad, cap, rfl, hc⟩ := hv.form
  have HL := hid hl
  have HC := hid hc
  have HRC : Hid (isTb q = (decide (q.length ≤ 64) && tbF none q)) := rfl
  have HR0 : Hid (tbF none q = tbF (prevH q 0) (q.drop 0)) := by show _ = _; simp [prevH]
  have CK0 : Hid (∀ (k : Nat) (hk : k < q.length) (W : World), Calls Try.prog 29 #[.agg #[.string q[k].tk, .string q[k].su, .string q[k].ou, .int .i64 q[k].at_]] W fun e w' => e = .returned (.bool (hdOk q[k])) ∧ Below W.heap.size W w') := fun k hk W => by
    obtain ⟨h1, h2⟩ := hs _ (List.getElem_mem hk)
    exact one15_any q[k] W h1 h2
  generalize isTb q = RR at *
  generalize tbF none q = R at *
  clear hc hv hl hs
  go_enter Try.func24, Try.ntmps24
  go_wp2
  go_loopw [3] (fun i wr => ∃ (k : Nat), k ≤ q.length ∧ i = .int .i64 (k : Int) ∧ Hid (Below w.heap.size w wr) ∧ Hid (R = tbF (prevH q k) (q.drop k))) (fun i _ => q.length - (intOf i).toNat)
  case atStart => exact ⟨0, Nat.zero_le _, rfl, Below.refl _ _, HR0⟩
  case round =>
    clear HR0
    obtain ⟨k, hk, rfl, HB, HR⟩ := hrel
    by_cases hlt : k < q.length
    · have hk1 : (k : Int) < (q.length : Int) := by omega
      have hk0 : (0 : Int) ≤ (k : Int) := by omega
      have hwk : wrap64 ((k : Int) + 1) = ((k + 1 : Nat) : Int) := by have := HL.out; rw [IntWalk.wrap64_in _ (by omega)]; omega
      obtain ⟨b, off, rfl, hb, c0, c1, c2, c3⟩ := HC.out k hlt
      have HBAD := hid (tb_bad hlt HR.out)
      have HGO := hid (tb_go hlt HR.out)
      have HPV : Hid (k = 0 ∧ prevH q k = none ∨ ∃ (m : Nat) (pi : ByteArray), k = m + 1 ∧ prevH q k = some pi ∧ ∀ W, Below w.heap.size w W → W.cell? ⟨b, off + m * 4, none⟩ = some (.string pi)) := by
        cases k with
        | zero => exact .inl ⟨rfl, rfl⟩
        | succ m =>
          obtain ⟨b', off', e, hb', c0', _⟩ := HC.out m (by omega)
          injection e with e
          injection e with e1 e2
          subst e1 e2
          exact .inr ⟨m, _, rfl, prevH_succ q m (by omega), fun W hW => (hW.cell (p := ⟨b, off + m * 4, none⟩) hb').trans c0'⟩
      have HCS : Hid (∀ w', Below w.heap.size w w' → (w'.cell? ⟨b, off + k * 4, none⟩ = some (.string q[k].tk) ∧ w'.cell? ⟨b, off + k * 4 + 1, none⟩ = some (.string q[k].su) ∧ w'.cell? ⟨b, off + k * 4 + 2, none⟩ = some (.string q[k].ou) ∧ w'.cell? ⟨b, off + k * 4 + 3, none⟩ = some (.int .i64 q[k].at_))) := fun w' h => ⟨(h.cell (p := ⟨b, off + k * 4, none⟩) hb).trans c0, (h.cell (p := ⟨b, off + k * 4 + 1, none⟩) hb).trans c1, (h.cell (p := ⟨b, off + k * 4 + 2, none⟩) hb).trans c2, (h.cell (p := ⟨b, off + k * 4 + 3, none⟩) hb).trans c3⟩
      have HX : Hid (∀ W, Below w.heap.size w W → Calls Try.prog 29 #[.agg #[.string q[k].tk, .string q[k].su, .string q[k].ou, .int .i64 q[k].at_]] W fun e w' => e = .returned (.bool (hdOk q[k])) ∧ Hid (Below w.heap.size w w')) := fun W hW => (CK0.out k hlt W).mono fun e w' ⟨he, hb⟩ => ⟨he, below_on hW hb⟩
      have HLT := hid hlt
      have hkL : (k : Int) < 8796093022208 := by have := HL.out; omega
      clear HC HR c0 c1 c2 c3 HL CK0 hb
      generalize hok : hdOk q[k] = OK at *
      generalize q[k] = y at *
      clear hok
      obtain ⟨tk, su, ou, at_⟩ := y
      simp only at *
      generalize prevH q k = PV at *
      have Y5 := hid (HCS.out _ HB.out)
      have BD : Hid (Below w.heap.size w wr.drew) := HB.out.drew
      have HX1 : Hid (∀ W, Below w.heap.size w W → Calls Try.prog 29 #[.agg #[.string tk, .string su, .string ou, .int .i64 at_]] W fun e w' => e = .returned (.bool OK) ∧ (w'.cell? ⟨b, off + k * 4, none⟩ = some (.string tk) ∧ w'.cell? ⟨b, off + k * 4 + 1, none⟩ = some (.string su) ∧ w'.cell? ⟨b, off + k * 4 + 2, none⟩ = some (.string ou) ∧ w'.cell? ⟨b, off + k * 4 + 3, none⟩ = some (.int .i64 at_)) ∧ Hid (Below w.heap.size w w')) := fun W hW => (HX.out W hW).mono fun e w' ⟨he, hb⟩ => ⟨he, HCS.out _ hb.out, hb⟩
      cases OK
      case true =>
        rcases HPV.out with ⟨hz, rfl⟩ | ⟨m, pi, hz, rfl, hpi⟩
        · have HG := hid (HGO.out rfl rfl)
          have g1 : decide (0 < (k : Int)) = false := decide_eq_false (by omega)
          have g2 : decide (0 < k) = false := decide_eq_false (by omega)
          clear HBAD HGO HPV hk hlt hz HX HCS HRC
          go_wp2
          refine wp_region_held_drew (S := (fun w' => (w'.cell? ⟨b, off + k * 4, none⟩ = some (.string tk) ∧ w'.cell? ⟨b, off + k * 4 + 1, none⟩ = some (.string su) ∧ w'.cell? ⟨b, off + k * 4 + 2, none⟩ = some (.string ou) ∧ w'.cell? ⟨b, off + k * 4 + 3, none⟩ = some (.int .i64 at_)))) (by kernel_rfl) Y5.out (fun hHeld => ?_)
          refine wpAnyH_take (i := 0) (v := ?vv20) rfl (by kernel_rfl) (by kernel_rfl) (by kernel_rfl) (fun _ _ _ h => h) (Or.inl ⟨by rfl, ?hy20⟩) (by assumption) ?rest20
          case hy20 => (intro w hSw; (try dsimp only at hSw); go_simp; first | done | with_reducible rfl)
          try simp only [Act.put, List.getElem_toArray, List.getElem_cons_succ, List.getElem_cons_zero, List.setIfInBounds_toArray, List.set_cons_zero, List.set_cons_succ]
          refine wpAnyH_take (i := 1) (v := ?vv21) rfl (by kernel_rfl) (by kernel_rfl) (by kernel_rfl) (fun _ _ _ h => h) (Or.inl ⟨by rfl, ?hy21⟩) (by assumption) ?rest21
          case hy21 => (intro w hSw; (try dsimp only at hSw); go_simp; first | done | with_reducible rfl)
          try simp only [Act.put, List.getElem_toArray, List.getElem_cons_succ, List.getElem_cons_zero, List.setIfInBounds_toArray, List.set_cons_zero, List.set_cons_succ]
          refine wpAnyH_take (i := 2) (v := ?vv22) rfl (by kernel_rfl) (by kernel_rfl) (by kernel_rfl) (fun _ _ _ h => h) (Or.inl ⟨by rfl, ?hy22⟩) (by assumption) ?rest22
          case hy22 => (intro w hSw; (try dsimp only at hSw); go_simp; first | done | with_reducible rfl)
          try simp only [Act.put, List.getElem_toArray, List.getElem_cons_succ, List.getElem_cons_zero, List.setIfInBounds_toArray, List.set_cons_zero, List.set_cons_succ]
          refine wpAnyH_take (i := 3) (v := ?vv23) rfl (by kernel_rfl) (by kernel_rfl) (by kernel_rfl) (fun _ _ _ h => h) (Or.inl ⟨by rfl, ?hy23⟩) (by assumption) ?rest23
          case hy23 => (intro w hSw; (try dsimp only at hSw); go_simp; first | done | with_reducible rfl)
          try simp only [Act.put, List.getElem_toArray, List.getElem_cons_succ, List.getElem_cons_zero, List.setIfInBounds_toArray, List.set_cons_zero, List.set_cons_succ]
          refine wpAnyH_ready (rs := [4]) (by kernel_rfl) (by simp) ?_
          refine AllReadyH.cons rfl (fun K hK => ?_) AllReadyH.nil
          go_simp
          refine (HX1.out _ BD.out).mono ?_
          rintro e w5 ⟨rfl, ZC, B5⟩
          go_wp2_with fail
          refine hK.out _ _ ZC (fun hHeld => ?_)
          clear hK K
          try simp only [Act.put, List.getElem_toArray, List.getElem_cons_succ, List.getElem_cons_zero, List.setIfInBounds_toArray, List.set_cons_zero, List.set_cons_succ]
          refine wpAnyH_take (i := 5) (v := ?vv24) rfl (by kernel_rfl) (by kernel_rfl) (by kernel_rfl) (fun _ _ _ h => h) (Or.inl ⟨by rfl, ?hy24⟩) (by assumption) ?rest24
          case hy24 => (intro w hSw; (try dsimp only at hSw); go_simp; first | done | with_reducible rfl)
          try simp only [Act.put, List.getElem_toArray, List.getElem_cons_succ, List.getElem_cons_zero, List.setIfInBounds_toArray, List.set_cons_zero, List.set_cons_succ]
          refine wpAnyH_take (i := 6) (v := ?vv25) rfl (by kernel_rfl) (by kernel_rfl) (by kernel_rfl) (fun _ _ _ h => h) (Or.inl ⟨by rfl, ?hy25⟩) (by assumption) ?rest25
          case hy25 => (intro w hSw; (try dsimp only at hSw); go_simp; first | done | with_reducible rfl)
          try simp only [Act.put, List.getElem_toArray, List.getElem_cons_succ, List.getElem_cons_zero, List.setIfInBounds_toArray, List.set_cons_zero, List.set_cons_succ]
          refine wpAnyH_take (i := 7) (v := ?vv26) rfl (by kernel_rfl) (by kernel_rfl) (by kernel_rfl) (fun _ _ _ h => h) (Or.inl ⟨by rfl, ?hy26⟩) (by assumption) ?rest26
          case hy26 => (intro w hSw; (try dsimp only at hSw); go_simp; first | done | with_reducible rfl)
          try simp only [Act.put, List.getElem_toArray, List.getElem_cons_succ, List.getElem_cons_zero, List.setIfInBounds_toArray, List.set_cons_zero, List.set_cons_succ]
          refine wpAnyH_take (i := 8) (v := ?vv27) rfl (by kernel_rfl) (by kernel_rfl) (by kernel_rfl) (fun _ _ _ h => h) (Or.inl ⟨by rfl, ?hy27⟩) (by assumption) ?rest27
          case hy27 => (intro w hSw; (try dsimp only at hSw); go_simp; first | done | with_reducible rfl)
          try simp only [Act.put, List.getElem_toArray, List.getElem_cons_succ, List.getElem_cons_zero, List.setIfInBounds_toArray, List.set_cons_zero, List.set_cons_succ]
          refine wpAnyH_take (i := 9) (v := ?vv28) rfl (by kernel_rfl) (by kernel_rfl) (by kernel_rfl) (fun _ _ _ h => h) (Or.inl ⟨by rfl, ?hy28⟩) (by assumption) ?rest28
          case hy28 => (intro w hSw; (try dsimp only at hSw); go_simp; first | done | with_reducible rfl)
          try simp only [Act.put, List.getElem_toArray, List.getElem_cons_succ, List.getElem_cons_zero, List.setIfInBounds_toArray, List.set_cons_zero, List.set_cons_succ]
          refine wpAnyH_take (i := 10) (v := undef) rfl (by kernel_rfl) (by kernel_rfl) (by kernel_rfl) (fun _ _ _ h => h) (Or.inr ⟨by rfl, rfl⟩) (by assumption) ?_
          try simp only [Act.put, List.getElem_toArray, List.getElem_cons_succ, List.getElem_cons_zero, List.setIfInBounds_toArray, List.set_cons_zero, List.set_cons_succ]
          refine wpAnyH_take (i := 11) (v := undef) rfl (by kernel_rfl) (by kernel_rfl) (by kernel_rfl) (fun _ _ _ h => h) (Or.inr ⟨by rfl, rfl⟩) (by assumption) ?_
          try simp only [Act.put, List.getElem_toArray, List.getElem_cons_succ, List.getElem_cons_zero, List.setIfInBounds_toArray, List.set_cons_zero, List.set_cons_succ]
          refine wpAnyH_take (i := 12) (v := undef) rfl (by kernel_rfl) (by kernel_rfl) (by kernel_rfl) (fun _ _ _ h => h) (Or.inr ⟨by rfl, rfl⟩) (by assumption) ?_
          try simp only [Act.put, List.getElem_toArray, List.getElem_cons_succ, List.getElem_cons_zero, List.setIfInBounds_toArray, List.set_cons_zero, List.set_cons_succ]
          refine wpAnyH_take (i := 13) (v := undef) rfl (by kernel_rfl) (by kernel_rfl) (by kernel_rfl) (fun _ _ _ h => h) (Or.inr ⟨by rfl, rfl⟩) (by assumption) ?_
          try simp only [Act.put, List.getElem_toArray, List.getElem_cons_succ, List.getElem_cons_zero, List.setIfInBounds_toArray, List.set_cons_zero, List.set_cons_succ]
          refine wpAnyH_take (i := 14) (v := undef) rfl (by kernel_rfl) (by kernel_rfl) (by kernel_rfl) (fun _ _ _ h => h) (Or.inr ⟨by rfl, rfl⟩) (by assumption) ?_
          try simp only [Act.put, List.getElem_toArray, List.getElem_cons_succ, List.getElem_cons_zero, List.setIfInBounds_toArray, List.set_cons_zero, List.set_cons_succ]
          refine wpAnyH_take (i := 15) (v := undef) rfl (by kernel_rfl) (by kernel_rfl) (by kernel_rfl) (fun _ _ _ h => h) (Or.inr ⟨by rfl, rfl⟩) (by assumption) ?_
          try simp only [Act.put, List.getElem_toArray, List.getElem_cons_succ, List.getElem_cons_zero, List.setIfInBounds_toArray, List.set_cons_zero, List.set_cons_succ]
          refine wpAnyH_take (i := 16) (v := undef) rfl (by kernel_rfl) (by kernel_rfl) (by kernel_rfl) (fun _ _ _ h => h) (Or.inr ⟨by rfl, rfl⟩) (by assumption) ?_
          try simp only [Act.put, List.getElem_toArray, List.getElem_cons_succ, List.getElem_cons_zero, List.setIfInBounds_toArray, List.set_cons_zero, List.set_cons_succ]
          refine wpAnyH_take (i := 17) (v := undef) rfl (by kernel_rfl) (by kernel_rfl) (by kernel_rfl) (fun _ _ _ h => h) (Or.inr ⟨by rfl, rfl⟩) (by assumption) ?_
          try simp only [Act.put, List.getElem_toArray, List.getElem_cons_succ, List.getElem_cons_zero, List.setIfInBounds_toArray, List.set_cons_zero, List.set_cons_succ]
          refine wpAnyH_take (i := 18) (v := undef) rfl (by kernel_rfl) (by kernel_rfl) (by kernel_rfl) (fun _ _ _ h => h) (Or.inr ⟨by rfl, rfl⟩) (by assumption) ?_
          try simp only [Act.put, List.getElem_toArray, List.getElem_cons_succ, List.getElem_cons_zero, List.setIfInBounds_toArray, List.set_cons_zero, List.set_cons_succ]
          refine wpAnyH_take (i := 19) (v := undef) rfl (by kernel_rfl) (by kernel_rfl) (by kernel_rfl) (fun _ _ _ h => h) (Or.inr ⟨by rfl, rfl⟩) (by assumption) ?_
          try simp only [Act.put, List.getElem_toArray, List.getElem_cons_succ, List.getElem_cons_zero, List.setIfInBounds_toArray, List.set_cons_zero, List.set_cons_succ]
          refine wpAnyH_take (i := 20) (v := undef) rfl (by kernel_rfl) (by kernel_rfl) (by kernel_rfl) (fun _ _ _ h => h) (Or.inr ⟨by rfl, rfl⟩) (by assumption) ?_
          try simp only [Act.put, List.getElem_toArray, List.getElem_cons_succ, List.getElem_cons_zero, List.setIfInBounds_toArray, List.set_cons_zero, List.set_cons_succ]
          refine wpAnyH_take (i := 21) (v := undef) rfl (by kernel_rfl) (by kernel_rfl) (by kernel_rfl) (fun _ _ _ h => h) (Or.inr ⟨by rfl, rfl⟩) (by assumption) ?_
          try simp only [Act.put, List.getElem_toArray, List.getElem_cons_succ, List.getElem_cons_zero, List.setIfInBounds_toArray, List.set_cons_zero, List.set_cons_succ]
          refine wpAnyH_take (i := 22) (v := ?vv29) rfl (by kernel_rfl) (by kernel_rfl) (by kernel_rfl) (fun _ _ _ h => h) (Or.inl ⟨by rfl, ?hy29⟩) (by assumption) ?rest29
          case hy29 => (intro w hSw; (try dsimp only at hSw); go_simp; first | done | with_reducible rfl)
          try simp only [Act.put, List.getElem_toArray, List.getElem_cons_succ, List.getElem_cons_zero, List.setIfInBounds_toArray, List.set_cons_zero, List.set_cons_succ]
          refine wpAnyH_take (i := 23) (v := ?vv30) rfl (by kernel_rfl) (by kernel_rfl) (by kernel_rfl) (fun _ _ _ h => h) (Or.inl ⟨by rfl, ?hy30⟩) (by assumption) ?rest30
          case hy30 => (intro w hSw; (try dsimp only at hSw); go_simp; first | done | with_reducible rfl)
          try simp only [Act.put, List.getElem_toArray, List.getElem_cons_succ, List.getElem_cons_zero, List.setIfInBounds_toArray, List.set_cons_zero, List.set_cons_succ]
          refine wpAnyH_done (by kernel_rfl) ?_ _
          clear hHeld ZC
          go_wp2
          exact ⟨⟨k + 1, HLT.out, by first | rw [hwk] | rfl | simp, B5, HG⟩, by (try rw [hwk]); have := HLT.out; simp [intOf]; omega⟩
        · have g1 : decide (0 < (k : Int)) = true := decide_eq_true (by omega)
          have g2 : decide (0 < k) = true := decide_eq_true (by omega)
          have hw1 : wrap64 ((k : Int) - 1) = (m : Int) := by rw [IntWalk.wrap64_in _ (by omega)]; omega
          have hw2 : IntKind.i64.wrap ((k : Int) - 1) = (m : Int) := by rw [IntKind.wrap_i64]; omega
          have hm0 : (0 : Int) ≤ (m : Int) := by omega
          have hm1 : (m : Int) < (q.length : Int) := by omega
          have HPI := hid hpi
          have Y6 : Hid ((wr.cell? ⟨b, off + k * 4, none⟩ = some (.string tk) ∧ wr.cell? ⟨b, off + k * 4 + 1, none⟩ = some (.string su) ∧ wr.cell? ⟨b, off + k * 4 + 2, none⟩ = some (.string ou) ∧ wr.cell? ⟨b, off + k * 4 + 3, none⟩ = some (.int .i64 at_)) ∧ wr.cell? ⟨b, off + m * 4, none⟩ = some (.string pi)) := ⟨Y5.out, HPI.out _ HB.out⟩
          have HX2 : Hid (∀ W, Below w.heap.size w W → Calls Try.prog 29 #[.agg #[.string tk, .string su, .string ou, .int .i64 at_]] W fun e w' => e = .returned (.bool true) ∧ ((w'.cell? ⟨b, off + k * 4, none⟩ = some (.string tk) ∧ w'.cell? ⟨b, off + k * 4 + 1, none⟩ = some (.string su) ∧ w'.cell? ⟨b, off + k * 4 + 2, none⟩ = some (.string ou) ∧ w'.cell? ⟨b, off + k * 4 + 3, none⟩ = some (.int .i64 at_)) ∧ w'.cell? ⟨b, off + m * 4, none⟩ = some (.string pi)) ∧ Hid (Below w.heap.size w w')) := fun W hW => (HX1.out W hW).mono fun e w' ⟨he, hz, hb⟩ => ⟨he, ⟨hz, HPI.out _ hb.out⟩, hb⟩
          cases hge : bb pi tk
          case false =>
            have g3 : (!Op.bytesLess pi.toList tk.toList) = true := by rw [bb_less, hge]; rfl
            have g4 : Op.bytesLess pi.toList tk.toList = false := by rw [bb_less, hge]
            have hr := HBAD.out (.inr (show bb pi tk = false from hge))
            have hrr : RR = false := by rw [HRC.out, hr]; simp
            subst hrr
            clear HBAD HGO HPV hk hlt hz hpi HX HX1 hge HCS HRC HPI
            go_wp2
            go_region_held3 (fun w' => (w'.cell? ⟨b, off + k * 4, none⟩ = some (.string tk) ∧ w'.cell? ⟨b, off + k * 4 + 1, none⟩ = some (.string su) ∧ w'.cell? ⟨b, off + k * 4 + 2, none⟩ = some (.string ou) ∧ w'.cell? ⟨b, off + k * 4 + 3, none⟩ = some (.int .i64 at_)) ∧ w'.cell? ⟨b, off + m * 4, none⟩ = some (.string pi)) (first | exact Y6.out | with_reducible assumption) (first | (go_at_call 29; with_reducible (refine (HX2.out _ ?_).mono ?_); (exact BD.out); rintro e w5 ⟨rfl, ZC, B5⟩))
            clear ZC
            go_wp2
            go_ret
            exact ⟨rfl, B5.out⟩
          case true =>
            have g3 : (!Op.bytesLess pi.toList tk.toList) = false := by rw [bb_less, hge]; rfl
            have g4 : Op.bytesLess pi.toList tk.toList = true := by rw [bb_less, hge]
            have HG := hid (HGO.out rfl (show bb pi tk = true from hge))
            clear HBAD HGO HPV hk hlt hz hpi HX HX1 hge HCS HRC HPI
            go_wp2
            go_region_held3 (fun w' => (w'.cell? ⟨b, off + k * 4, none⟩ = some (.string tk) ∧ w'.cell? ⟨b, off + k * 4 + 1, none⟩ = some (.string su) ∧ w'.cell? ⟨b, off + k * 4 + 2, none⟩ = some (.string ou) ∧ w'.cell? ⟨b, off + k * 4 + 3, none⟩ = some (.int .i64 at_)) ∧ w'.cell? ⟨b, off + m * 4, none⟩ = some (.string pi)) (first | exact Y6.out | with_reducible assumption) (first | (go_at_call 29; with_reducible (refine (HX2.out _ ?_).mono ?_); (exact BD.out); rintro e w5 ⟨rfl, ZC, B5⟩))
            clear ZC
            go_wp2
            exact ⟨⟨k + 1, HLT.out, by first | rw [hwk] | rfl | simp, B5, HG⟩, by (try rw [hwk]); have := HLT.out; simp [intOf]; omega⟩
      case false =>
        have hr := HBAD.out (.inl rfl)
        have hrr : RR = false := by rw [HRC.out, hr]; simp
        subst hrr
        clear HBAD HGO HPV hk hlt HX HCS HRC
        go_wp2
        refine wp_region_held_drew (S := (fun w' => (w'.cell? ⟨b, off + k * 4, none⟩ = some (.string tk) ∧ w'.cell? ⟨b, off + k * 4 + 1, none⟩ = some (.string su) ∧ w'.cell? ⟨b, off + k * 4 + 2, none⟩ = some (.string ou) ∧ w'.cell? ⟨b, off + k * 4 + 3, none⟩ = some (.int .i64 at_)))) (by kernel_rfl) Y5.out (fun hHeld => ?_)
        refine wpAnyH_take (i := 0) (v := ?vv13) rfl (by kernel_rfl) (by kernel_rfl) (by kernel_rfl) (fun _ _ _ h => h) (Or.inl ⟨by rfl, ?hy13⟩) (by assumption) ?rest13
        case hy13 => (intro w hSw; (try dsimp only at hSw); go_simp; first | done | with_reducible rfl)
        try simp only [Act.put, List.getElem_toArray, List.getElem_cons_succ, List.getElem_cons_zero, List.setIfInBounds_toArray, List.set_cons_zero, List.set_cons_succ]
        refine wpAnyH_take (i := 1) (v := ?vv14) rfl (by kernel_rfl) (by kernel_rfl) (by kernel_rfl) (fun _ _ _ h => h) (Or.inl ⟨by rfl, ?hy14⟩) (by assumption) ?rest14
        case hy14 => (intro w hSw; (try dsimp only at hSw); go_simp; first | done | with_reducible rfl)
        try simp only [Act.put, List.getElem_toArray, List.getElem_cons_succ, List.getElem_cons_zero, List.setIfInBounds_toArray, List.set_cons_zero, List.set_cons_succ]
        refine wpAnyH_take (i := 2) (v := ?vv15) rfl (by kernel_rfl) (by kernel_rfl) (by kernel_rfl) (fun _ _ _ h => h) (Or.inl ⟨by rfl, ?hy15⟩) (by assumption) ?rest15
        case hy15 => (intro w hSw; (try dsimp only at hSw); go_simp; first | done | with_reducible rfl)
        try simp only [Act.put, List.getElem_toArray, List.getElem_cons_succ, List.getElem_cons_zero, List.setIfInBounds_toArray, List.set_cons_zero, List.set_cons_succ]
        refine wpAnyH_take (i := 3) (v := ?vv16) rfl (by kernel_rfl) (by kernel_rfl) (by kernel_rfl) (fun _ _ _ h => h) (Or.inl ⟨by rfl, ?hy16⟩) (by assumption) ?rest16
        case hy16 => (intro w hSw; (try dsimp only at hSw); go_simp; first | done | with_reducible rfl)
        try simp only [Act.put, List.getElem_toArray, List.getElem_cons_succ, List.getElem_cons_zero, List.setIfInBounds_toArray, List.set_cons_zero, List.set_cons_succ]
        refine wpAnyH_ready (rs := [4]) (by kernel_rfl) (by simp) ?_
        refine AllReadyH.cons rfl (fun K hK => ?_) AllReadyH.nil
        go_simp
        refine (HX1.out _ BD.out).mono ?_
        rintro e w5 ⟨rfl, ZC, B5⟩
        go_wp2_with fail
        refine hK.out _ _ ZC (fun hHeld => ?_)
        clear hK K
        try simp only [Act.put, List.getElem_toArray, List.getElem_cons_succ, List.getElem_cons_zero, List.setIfInBounds_toArray, List.set_cons_zero, List.set_cons_succ]
        refine wpAnyH_take (i := 5) (v := ?vv17) rfl (by kernel_rfl) (by kernel_rfl) (by kernel_rfl) (fun _ _ _ h => h) (Or.inl ⟨by rfl, ?hy17⟩) (by assumption) ?rest17
        case hy17 => (intro w hSw; (try dsimp only at hSw); go_simp; first | done | with_reducible rfl)
        try simp only [Act.put, List.getElem_toArray, List.getElem_cons_succ, List.getElem_cons_zero, List.setIfInBounds_toArray, List.set_cons_zero, List.set_cons_succ]
        refine wpAnyH_take (i := 6) (v := ?vv18) rfl (by kernel_rfl) (by kernel_rfl) (by kernel_rfl) (fun _ _ _ h => h) (Or.inl ⟨by rfl, ?hy18⟩) (by assumption) ?rest18
        case hy18 => (intro w hSw; (try dsimp only at hSw); go_simp; first | done | with_reducible rfl)
        try simp only [Act.put, List.getElem_toArray, List.getElem_cons_succ, List.getElem_cons_zero, List.setIfInBounds_toArray, List.set_cons_zero, List.set_cons_succ]
        refine wpAnyH_take (i := 7) (v := undef) rfl (by kernel_rfl) (by kernel_rfl) (by kernel_rfl) (fun _ _ _ h => h) (Or.inr ⟨by rfl, rfl⟩) (by assumption) ?_
        try simp only [Act.put, List.getElem_toArray, List.getElem_cons_succ, List.getElem_cons_zero, List.setIfInBounds_toArray, List.set_cons_zero, List.set_cons_succ]
        refine wpAnyH_take (i := 8) (v := undef) rfl (by kernel_rfl) (by kernel_rfl) (by kernel_rfl) (fun _ _ _ h => h) (Or.inr ⟨by rfl, rfl⟩) (by assumption) ?_
        try simp only [Act.put, List.getElem_toArray, List.getElem_cons_succ, List.getElem_cons_zero, List.setIfInBounds_toArray, List.set_cons_zero, List.set_cons_succ]
        refine wpAnyH_take (i := 9) (v := undef) rfl (by kernel_rfl) (by kernel_rfl) (by kernel_rfl) (fun _ _ _ h => h) (Or.inr ⟨by rfl, rfl⟩) (by assumption) ?_
        try simp only [Act.put, List.getElem_toArray, List.getElem_cons_succ, List.getElem_cons_zero, List.setIfInBounds_toArray, List.set_cons_zero, List.set_cons_succ]
        refine wpAnyH_take (i := 10) (v := undef) rfl (by kernel_rfl) (by kernel_rfl) (by kernel_rfl) (fun _ _ _ h => h) (Or.inr ⟨by rfl, rfl⟩) (by assumption) ?_
        try simp only [Act.put, List.getElem_toArray, List.getElem_cons_succ, List.getElem_cons_zero, List.setIfInBounds_toArray, List.set_cons_zero, List.set_cons_succ]
        refine wpAnyH_take (i := 11) (v := undef) rfl (by kernel_rfl) (by kernel_rfl) (by kernel_rfl) (fun _ _ _ h => h) (Or.inr ⟨by rfl, rfl⟩) (by assumption) ?_
        try simp only [Act.put, List.getElem_toArray, List.getElem_cons_succ, List.getElem_cons_zero, List.setIfInBounds_toArray, List.set_cons_zero, List.set_cons_succ]
        refine wpAnyH_take (i := 12) (v := undef) rfl (by kernel_rfl) (by kernel_rfl) (by kernel_rfl) (fun _ _ _ h => h) (Or.inr ⟨by rfl, rfl⟩) (by assumption) ?_
        try simp only [Act.put, List.getElem_toArray, List.getElem_cons_succ, List.getElem_cons_zero, List.setIfInBounds_toArray, List.set_cons_zero, List.set_cons_succ]
        refine wpAnyH_take (i := 13) (v := undef) rfl (by kernel_rfl) (by kernel_rfl) (by kernel_rfl) (fun _ _ _ h => h) (Or.inr ⟨by rfl, rfl⟩) (by assumption) ?_
        try simp only [Act.put, List.getElem_toArray, List.getElem_cons_succ, List.getElem_cons_zero, List.setIfInBounds_toArray, List.set_cons_zero, List.set_cons_succ]
        refine wpAnyH_take (i := 14) (v := undef) rfl (by kernel_rfl) (by kernel_rfl) (by kernel_rfl) (fun _ _ _ h => h) (Or.inr ⟨by rfl, rfl⟩) (by assumption) ?_
        try simp only [Act.put, List.getElem_toArray, List.getElem_cons_succ, List.getElem_cons_zero, List.setIfInBounds_toArray, List.set_cons_zero, List.set_cons_succ]
        refine wpAnyH_take (i := 15) (v := undef) rfl (by kernel_rfl) (by kernel_rfl) (by kernel_rfl) (fun _ _ _ h => h) (Or.inr ⟨by rfl, rfl⟩) (by assumption) ?_
        try simp only [Act.put, List.getElem_toArray, List.getElem_cons_succ, List.getElem_cons_zero, List.setIfInBounds_toArray, List.set_cons_zero, List.set_cons_succ]
        refine wpAnyH_take (i := 16) (v := undef) rfl (by kernel_rfl) (by kernel_rfl) (by kernel_rfl) (fun _ _ _ h => h) (Or.inr ⟨by rfl, rfl⟩) (by assumption) ?_
        try simp only [Act.put, List.getElem_toArray, List.getElem_cons_succ, List.getElem_cons_zero, List.setIfInBounds_toArray, List.set_cons_zero, List.set_cons_succ]
        refine wpAnyH_take (i := 17) (v := undef) rfl (by kernel_rfl) (by kernel_rfl) (by kernel_rfl) (fun _ _ _ h => h) (Or.inr ⟨by rfl, rfl⟩) (by assumption) ?_
        try simp only [Act.put, List.getElem_toArray, List.getElem_cons_succ, List.getElem_cons_zero, List.setIfInBounds_toArray, List.set_cons_zero, List.set_cons_succ]
        refine wpAnyH_take (i := 18) (v := undef) rfl (by kernel_rfl) (by kernel_rfl) (by kernel_rfl) (fun _ _ _ h => h) (Or.inr ⟨by rfl, rfl⟩) (by assumption) ?_
        try simp only [Act.put, List.getElem_toArray, List.getElem_cons_succ, List.getElem_cons_zero, List.setIfInBounds_toArray, List.set_cons_zero, List.set_cons_succ]
        refine wpAnyH_take (i := 19) (v := undef) rfl (by kernel_rfl) (by kernel_rfl) (by kernel_rfl) (fun _ _ _ h => h) (Or.inr ⟨by rfl, rfl⟩) (by assumption) ?_
        try simp only [Act.put, List.getElem_toArray, List.getElem_cons_succ, List.getElem_cons_zero, List.setIfInBounds_toArray, List.set_cons_zero, List.set_cons_succ]
        refine wpAnyH_take (i := 20) (v := undef) rfl (by kernel_rfl) (by kernel_rfl) (by kernel_rfl) (fun _ _ _ h => h) (Or.inr ⟨by rfl, rfl⟩) (by assumption) ?_
        try simp only [Act.put, List.getElem_toArray, List.getElem_cons_succ, List.getElem_cons_zero, List.setIfInBounds_toArray, List.set_cons_zero, List.set_cons_succ]
        refine wpAnyH_take (i := 21) (v := undef) rfl (by kernel_rfl) (by kernel_rfl) (by kernel_rfl) (fun _ _ _ h => h) (Or.inr ⟨by rfl, rfl⟩) (by assumption) ?_
        try simp only [Act.put, List.getElem_toArray, List.getElem_cons_succ, List.getElem_cons_zero, List.setIfInBounds_toArray, List.set_cons_zero, List.set_cons_succ]
        refine wpAnyH_take (i := 22) (v := undef) rfl (by kernel_rfl) (by kernel_rfl) (by kernel_rfl) (fun _ _ _ h => h) (Or.inr ⟨by rfl, rfl⟩) (by assumption) ?_
        try simp only [Act.put, List.getElem_toArray, List.getElem_cons_succ, List.getElem_cons_zero, List.setIfInBounds_toArray, List.set_cons_zero, List.set_cons_succ]
        refine wpAnyH_take (i := 23) (v := ?vv19) rfl (by kernel_rfl) (by kernel_rfl) (by kernel_rfl) (fun _ _ _ h => h) (Or.inl ⟨by rfl, ?hy19⟩) (by assumption) ?rest19
        case hy19 => (intro w hSw; (try dsimp only at hSw); go_simp; first | done | with_reducible rfl)
        try simp only [Act.put, List.getElem_toArray, List.getElem_cons_succ, List.getElem_cons_zero, List.setIfInBounds_toArray, List.set_cons_zero, List.set_cons_succ]
        refine wpAnyH_done (by kernel_rfl) ?_ _
        clear hHeld ZC
        go_wp2
        go_ret
        exact ⟨rfl, B5.out⟩
    · have hke : k = q.length := by omega
      have hd : decide ((k : Int) < (q.length : Int)) = false := decide_eq_false (by omega)
      have hd2 : decide (k < q.length) = false := decide_eq_false hlt
      have HS : Hid (R = true) := by
        show _ = _
        rw [HR.out, List.drop_eq_nil_of_le (by omega)]; rfl
      have hrr : RR = decide (q.length ≤ 64) := by rw [HRC.out, HS.out]; simp
      by_cases h3 : q.length ≤ 64
      · have h4 : decide ((q.length : Int) ≤ 64) = true := decide_eq_true (by omega)
        have h5 : decide (q.length ≤ 64) = true := decide_eq_true h3
        rw [h5] at hrr
        subst hrr
        clear HC HR HS HL CK0 hke hlt hk h3 HRC
        go_wp2
        go_ret
        exact ⟨rfl, HB.out⟩
      · have h4 : decide ((q.length : Int) ≤ 64) = false := decide_eq_false (by omega)
        have h5 : decide (q.length ≤ 64) = false := decide_eq_false h3
        rw [h5] at hrr
        subst hrr
        clear HC HR HS HL CK0 hke hlt hk h3 HRC
        go_wp2
        go_ret
        exact ⟨rfl, HB.out⟩
end Go.Proofs.Ytojiahdbgdgdcaa
namespace Go.Proofs.Ytojiahdbgdgdcaa
open Go.RowKit Go.Maps
set_option linter.unusedVariables false
set_option linter.unusedSimpArgs false

/-- how many stand ahead of a token -/
def plH (l : List Hd) (t : ByteArray) : Nat := l.countP (fun h => bb h.tk t)
def hasH (l : List Hd) (t : ByteArray) : Bool := l.any (fun h => decide (h.tk = t))
theorem plH_le (l : List Hd) (t : ByteArray) : plH l t ≤ l.length := List.countP_le_length
theorem plH_at : ∀ (l : List Hd) (t : ByteArray) (i : Nat), i ≤ l.length → (∀ j (h : j < l.length), j < i → bb l[j].tk t = true) → (∀ j (h : j < l.length), i ≤ j → bb l[j].tk t = false) → plH l t = i
  | [], t, i, hi, _, _ => by simp at hi; simp [plH, hi]
  | a :: r, t, 0, _, _, h2 => by
    unfold plH
    rw [List.countP_eq_zero]
    intro x hx
    obtain ⟨j, hj, rfl⟩ := List.getElem_of_mem hx
    simp [h2 j hj (Nat.zero_le _)]
  | a :: r, t, i + 1, hi, h1, h2 => by
    have ha : bb a.tk t = true := h1 0 (by simp) (Nat.succ_pos _)
    unfold plH
    have ha' : (fun h : Hd => bb h.tk t) a = true := ha
    rw [List.countP_cons_of_pos (p := fun h : Hd => bb h.tk t) (a := a) (l := r) ha']
    have := plH_at r t i (by simpa using hi) (fun j hj hij => h1 (j + 1) (by simpa using hj) (by omega)) (fun j hj hij => h2 (j + 1) (by simpa using hj) (by omega))
    unfold plH at this
    rw [this]
theorem hasH_at {l : List Hd} {t : ByteArray} (hs : l.Pairwise (fun a b => bb a.tk b.tk = true)) {i : Nat} (h1 : ∀ j (h : j < l.length), j < i → bb l[j].tk t = true) (h2 : ∀ j (h : j < l.length), i ≤ j → bb l[j].tk t = false) : hasH l t = (if h : i < l.length then decide (l[i].tk = t) else false) := by
  rw [Bool.eq_iff_iff]
  unfold hasH
  rw [List.any_eq_true]
  constructor
  · rintro ⟨x, hx, he⟩
    simp only [decide_eq_true_eq] at he
    obtain ⟨j, hj, rfl⟩ := List.getElem_of_mem hx
    have hij : i ≤ j := Nat.le_of_not_lt fun h => bb_ne (h1 j hj h) he
    have hil : i < l.length := by omega
    rw [dif_pos hil, decide_eq_true_eq]
    rcases Nat.lt_or_eq_of_le hij with h | h
    · have h3 := List.pairwise_iff_getElem.1 hs i j hil hj h
      rw [he, h2 i hil (Nat.le_refl _)] at h3
      cases h3
    · subst h; exact he
  · intro h
    by_cases hil : i < l.length
    · rw [dif_pos hil] at h
      exact ⟨l[i], List.getElem_mem hil, h⟩
    · rw [dif_neg hil] at h; cases h
set_option maxRecDepth 100000 in
set_option maxHeartbeats 2000000 in
theorem bsf_any (v : Value) (q : List Hd) (t : ByteArray) (w : World) (hv : HdI w v q) (hs : q.Pairwise (fun a b => bb a.tk b.tk = true)) (hl : q.length ≤ 64) : Calls Try.prog 45 #[v, .string t, .func (.func 46) #[] #[]] w fun e w' => e = .returned (.tuple #[.int .i64 (plH q t : Nat), .bool (hasH q t)]) ∧ Below w.heap.size w w' := by
  obtain ⟨ad, cap, rfl, hc⟩ := hv.form
  have HC := hid hc
  have HS := hid hs
  have CP := hid (fun x W => place1_any x t W)
  have HP : Hid (∀ i, i ≤ q.length → (∀ j (h : j < q.length), j < i → bb q[j].tk t = true) → (∀ j (h : j < q.length), i ≤ j → bb q[j].tk t = false) → plH q t = i ∧ hasH q t = (if h : i < q.length then decide (q[i].tk = t) else false)) := fun i hi h1 h2 => ⟨plH_at q t i hi h1 h2, hasH_at hs h1 h2⟩
  have hcf := enters_of Try.func46 (by kernel_rfl) rfl
  have I0 : Hid ((∀ j (h : j < q.length), j < 0 → bb q[j].tk t = true) ∧ (∀ j (h : j < q.length), q.length ≤ j → bb q[j].tk t = false)) := ⟨fun j h hj => by omega, fun j h hj => by omega⟩
  generalize plH q t = PN at *
  generalize hasH q t = PB at *
  clear hc hv hs
  go_enter Try.func45, Try.ntmps45
  go_wp2
  go_loopw [9, 10] (fun s9 s10 wr => ∃ lo hi : Nat, s9 = .int .i64 lo ∧ s10 = .int .i64 hi ∧ lo ≤ hi ∧ hi ≤ q.length ∧ Hid (Below w.heap.size w wr) ∧ Hid ((∀ j (h : j < q.length), j < lo → bb q[j].tk t = true) ∧ (∀ j (h : j < q.length), hi ≤ j → bb q[j].tk t = false))) (fun s9 s10 _ => (intOf s10).toNat - (intOf s9).toNat)
  case atStart => exact ⟨0, q.length, rfl, rfl, Nat.zero_le _, Nat.le_refl _, Below.refl _ _, I0⟩
  case round =>
    clear I0
    obtain ⟨lo, hi, rfl, rfl, hlh, hin, HB, HI⟩ := hrel
    by_cases hlt : lo < hi
    · have hm : (lo + hi) / 2 < q.length := by omega
      obtain ⟨b, off, rfl, hb, c0, c1, c2, c3⟩ := HC.out _ hm
      have d0 := (HB.out.cell (p := ⟨b, off + (lo + hi) / 2 * 4, none⟩) hb).trans c0
      have d1 := (HB.out.cell (p := ⟨b, off + (lo + hi) / 2 * 4 + 1, none⟩) hb).trans c1
      have d2 := (HB.out.cell (p := ⟨b, off + (lo + hi) / 2 * 4 + 2, none⟩) hb).trans c2
      have d3 := (HB.out.cell (p := ⟨b, off + (lo + hi) / 2 * 4 + 3, none⟩) hb).trans c3
      have CX : Hid (Calls Try.prog 46 #[.agg #[.string q[(lo + hi) / 2].tk, .string q[(lo + hi) / 2].su, .string q[(lo + hi) / 2].ou, .int .i64 q[(lo + hi) / 2].at_], .string t] wr fun e w' => e = .returned (.int .i64 (Lib.compareBytes q[(lo + hi) / 2].tk.data.toList t.data.toList)) ∧ Hid (Below w.heap.size w w')) := (CP.out q[(lo + hi) / 2] wr).mono fun e w' ⟨he, hb⟩ => ⟨he, below_on HB.out hb⟩
      have HCB := hid (cmp_bb q[(lo + hi) / 2].tk t)
      have HUP : Hid (bb q[(lo + hi) / 2].tk t = true → (∀ j (h : j < q.length), j < (lo + hi) / 2 + 1 → bb q[j].tk t = true) ∧ (∀ j (h : j < q.length), hi ≤ j → bb q[j].tk t = false)) := fun h => ⟨fun j hj hjm => by
        rcases Nat.lt_or_eq_of_le (Nat.le_of_lt_succ hjm) with h2 | h2
        · exact bb_trans (List.pairwise_iff_getElem.1 HS.out j _ hj hm h2) h
        · subst h2; exact h, HI.out.2⟩
      have HDN : Hid (bb q[(lo + hi) / 2].tk t = false → (∀ j (h : j < q.length), j < lo → bb q[j].tk t = true) ∧ (∀ j (h : j < q.length), (lo + hi) / 2 ≤ j → bb q[j].tk t = false)) := fun h => ⟨HI.out.1, fun j hj hjm => by
        rcases Nat.lt_or_eq_of_le hjm with h2 | h2
        · cases h3 : bb q[j].tk t with
          | false => rfl
          | true => rw [bb_trans (List.pairwise_iff_getElem.1 HS.out _ j hm hj h2) h3] at h; cases h
        · subst h2; exact h⟩
      clear c0 c1 c2 c3 hb HC HS HP CP HI HB
      generalize q[(lo + hi) / 2] = y at *
      obtain ⟨tk, su, ou, at_⟩ := y
      simp only at *
      have hw1 : wrap64 ((lo : Int) + (hi : Int)) = ((lo + hi : Nat) : Int) := by rw [IntWalk.wrap64_in _ (by omega)]; omega
      have hmi : (((lo + hi) / 2 : Nat) : Int) < (q.length : Int) := by omega
      have hwk : wrap64 ((((lo + hi) / 2 : Nat) : Int) + 1) = (((lo + hi) / 2 + 1 : Nat) : Int) := by rw [IntWalk.wrap64_in _ (by omega)]; omega
      generalize Lib.compareBytes _ _ = cm at *
      cases hbb : bb tk t
      · have hcm : decide (cm < 0) = false := by rw [HCB.out, hbb]
        have H2 := hid (HDN.out hbb)
        clear HCB HUP HDN hbb hm
        go_wp2_with fail
        refine CX.out.mono ?_
        rintro e w1 ⟨rfl, B1⟩
        clear CX d0 d1 d2 d3
        go_wp2
        exact ⟨⟨lo, (lo + hi) / 2, rfl, by first | rfl | simp, by omega, by omega, B1, H2⟩, by simp [intOf]; omega⟩
      · have hcm : decide (cm < 0) = true := by rw [HCB.out, hbb]
        have H2 := hid (HUP.out hbb)
        clear HCB HUP HDN hbb hm
        go_wp2_with fail
        refine CX.out.mono ?_
        rintro e w1 ⟨rfl, B1⟩
        clear CX d0 d1 d2 d3
        go_wp2
        exact ⟨⟨(lo + hi) / 2 + 1, hi, by first | rfl | simp, rfl, by omega, by omega, B1, H2⟩, by simp [intOf]; omega⟩
    · have he : lo = hi := by omega
      subst he
      obtain ⟨hp1, hp2⟩ := HP.out lo hin HI.out.1 HI.out.2
      have hp3 := hp1.symm
      subst hp3
      clear HP HI HS hlh hp1
      by_cases hlq : lo < q.length
      · obtain ⟨b, off, rfl, hb, c0, c1, c2, c3⟩ := HC.out lo hlq
        have d0 := (HB.out.cell (p := ⟨b, off + lo * 4, none⟩) hb).trans c0
        have d1 := (HB.out.cell (p := ⟨b, off + lo * 4 + 1, none⟩) hb).trans c1
        have d2 := (HB.out.cell (p := ⟨b, off + lo * 4 + 2, none⟩) hb).trans c2
        have d3 := (HB.out.cell (p := ⟨b, off + lo * 4 + 3, none⟩) hb).trans c3
        have CX : Hid (Calls Try.prog 46 #[.agg #[.string q[lo].tk, .string q[lo].su, .string q[lo].ou, .int .i64 q[lo].at_], .string t] wr fun e w' => e = .returned (.int .i64 (Lib.compareBytes q[lo].tk.data.toList t.data.toList)) ∧ Hid (Below w.heap.size w w')) := (CP.out q[lo] wr).mono fun e w' ⟨he, hb⟩ => ⟨he, below_on HB.out hb⟩
        have hcz := cmp_bz q[lo].tk t
        rw [dif_pos hlq, ← hcz] at hp2
        have HP2 := hid hp2
        clear hp2
        have hk1 : (lo : Int) < (q.length : Int) := by omega
        have hk0 : (0 : Int) ≤ (lo : Int) := by omega
        clear c0 c1 c2 c3 hb HC CP HB hcz
        generalize q[lo] = y at *
        obtain ⟨tk, su, ou, at_⟩ := y
        simp only at *
        generalize Lib.compareBytes _ _ = cm at *
        go_wp2_with fail
        refine CX.out.mono ?_
        rintro e w1 ⟨rfl, B1⟩
        clear CX d0 d1 d2 d3
        go_wp2
        go_ret2
        exact ⟨by rw [HP2.out]; rfl, B1.out⟩
      · rw [dif_neg hlq] at hp2
        subst hp2
        have hd : decide ((lo : Int) < (q.length : Int)) = false := decide_eq_false (by omega)
        have hd2 : decide (lo < q.length) = false := decide_eq_false hlq
        clear HC CP
        go_wp2
        go_ret2
        exact ⟨by first | rfl | simp, HB.out⟩
set_option maxRecDepth 100000 in
theorem place15_any (v : Value) (q : List Hd) (t : ByteArray) (w : World) (hv : HdI w v q) (hs : q.Pairwise (fun a b => bb a.tk b.tk = true)) (hl : q.length ≤ 64) : Calls Try.prog 22 #[v, .string t] w fun e w' => e = .returned (.tuple #[.int .i64 (plH q t : Nat), .bool (hasH q t)]) ∧ Below w.heap.size w w' := by
  have H := hid (bsf_any v q t w hv hs hl)
  generalize plH q t = PN at *
  generalize hasH q t = PB at *
  clear hv hs
  go_enter Try.func22, Try.ntmps22
  go_wp2_with fail
  refine H.out.mono ?_
  rintro e w1 ⟨rfl, b1⟩
  go_wp2
  go_ret2
  exact ⟨rfl, b1⟩
end Go.Proofs.Ytojiahdbgdgdcaa
namespace Go.Proofs.Ytojiahdbgdgdcaa
open Go.RowKit Go.Maps
set_option linter.unusedVariables false
set_option linter.unusedSimpArgs false

/-- what is kept of a token -/
def findH (l : List Hd) (t : ByteArray) : Option Hd := l.find? (fun h => decide (h.tk = t))
def fdN (s : ByteArray) : Option Hd → Int
  | none => 0
  | some h => if h.su = s then 1 else 2
def fdS (s : ByteArray) : Option Hd → ByteArray
  | none => ⟨#[]⟩
  | some h => if h.su = s then h.ou else ⟨#[]⟩
def lookN (l : List Hd) (t s : ByteArray) : Int := if isTb l = true then fdN s (findH l t) else 2
def lookS (l : List Hd) (t s : ByteArray) : ByteArray := if isTb l = true then fdS s (findH l t) else ⟨#[]⟩
theorem findH_none {l : List Hd} {t : ByteArray} (h : hasH l t = false) : findH l t = none := by
  unfold hasH at h
  unfold findH
  rw [List.find?_eq_none]
  intro x hx
  have := List.any_eq_false.1 h x hx
  exact this
theorem plH_has {l : List Hd} {t : ByteArray} (hs : l.Pairwise (fun a b => bb a.tk b.tk = true)) (h : hasH l t = true) : ∃ (k : plH l t < l.length), findH l t = some l[plH l t] ∧ l[plH l t].tk = t := by
  unfold hasH at h
  obtain ⟨x, hx, he⟩ := List.any_eq_true.1 h
  simp only [decide_eq_true_eq] at he
  obtain ⟨j, hj, rfl⟩ := List.getElem_of_mem hx
  have hp : plH l t = j := plH_at l t j (Nat.le_of_lt hj) (fun i hi hij => by rw [← he]; exact List.pairwise_iff_getElem.1 hs i j hi hj hij) (fun i hi hij => by
    rcases Nat.lt_or_eq_of_le hij with h2 | h2
    · rw [← he]; exact bb_asymm (List.pairwise_iff_getElem.1 hs j i hj hi h2)
    · subst h2; rw [he, bb_irrefl])
  refine ⟨by omega, ?_, ?_⟩
  · unfold findH
    rw [List.find?_eq_some_iff_getElem]
    refine ⟨by simp [hp, he], j, hj, by simp [hp], fun i hi => ?_⟩
    have := bb_ne (List.pairwise_iff_getElem.1 hs i j (by omega) hj hi)
    rw [he] at this
    simpa using this
  · simp [hp, he]
set_option maxRecDepth 100000 in
set_option maxHeartbeats 2000000 in
theorem look15_any (v : Value) (q : List Hd) (t s : ByteArray) (w : World) (hv : HdI w v q) : Calls Try.prog 8 #[v, .string t, .string s] w fun e w' => e = .returned (.tuple #[.int .i64 (lookN q t s), .string (lookS q t s)]) ∧ Below w.heap.size w w' := by
  obtain ⟨ad, cap, rfl, hc⟩ := hv.form
  have HC := hid hc
  have IT := hid (isTable_any _ q w hv)
  have PL : Hid (∀ W, Below w.heap.size w W → isTb q = true → Calls Try.prog 22 #[.slice ad q.length cap, .string t] W fun e w' => e = .returned (.tuple #[.int .i64 (plH q t : Nat), .bool (hasH q t)]) ∧ Below W.heap.size W w') := fun W hW h => place15_any _ q t W (hv.next hW) (isTb_rise h) (isTb_len h)
  have HN : Hid (lookN q t s = if isTb q = true then fdN s (findH q t) else 2) := rfl
  have HS : Hid (lookS q t s = if isTb q = true then fdS s (findH q t) else ⟨#[]⟩) := rfl
  have HF0 : Hid (hasH q t = false → findH q t = none) := findH_none
  have HF1 : Hid (isTb q = true → hasH q t = true → ∃ (k : plH q t < q.length), findH q t = some q[plH q t] ∧ q[plH q t].tk = t) := fun h h2 => plH_has (isTb_rise h) h2
  have HOU : Hid (isTb q = true → ∀ k (h : k < q.length), q[k].ou.size ≤ 4096) := fun h k hk => (hdOk_sz (isTb_all h _ (List.getElem_mem hk))).2.2.1
  have HLN : Hid (isTb q = true → q.length ≤ 64) := isTb_len
  generalize lookN q t s = RN at *
  generalize lookS q t s = RS at *
  generalize isTb q = IS at *
  generalize hasH q t = HB at *
  generalize findH q t = FO at *
  generalize plH q t = PN at *
  clear hc hv
  go_enter Try.func8, Try.ntmps8
  go_wp2_with fail
  refine IT.out.mono ?_
  rintro e w1 ⟨rfl, b1⟩
  have B1 := hid b1
  clear IT b1
  cases IS
  · have hn : RN = 2 := HN.out
    have hs : RS = ⟨#[]⟩ := HS.out
    subst hn hs
    clear HC PL HN HS HF0 HF1 HOU HLN
    go_wp2
    go_ret2
    exact ⟨rfl, B1.out⟩
  · have HN2 : Hid (RN = fdN s FO) := HN.out
    have HS2 : Hid (RS = fdS s FO) := HS.out
    have PL2 := hid (PL.out w1 B1.out rfl)
    have HL := hid (HLN.out rfl)
    have HF2 := hid (HF1.out rfl)
    have HO2 := hid (HOU.out rfl)
    clear HN HS HLN PL HF1 HOU
    go_wp2_with fail
    refine PL2.out.mono ?_
    rintro e w2 ⟨rfl, b2⟩
    have B2 := hid (below_on B1.out b2)
    clear PL2 b2 B1
    cases HB
    · have hf := HF0.out rfl
      subst hf
      have hn : RN = 0 := HN2.out
      have hs : RS = ⟨#[]⟩ := HS2.out
      subst hn hs
      clear HC HN2 HS2 HF0 HF2 HO2
      go_wp2
      go_ret2
      exact ⟨rfl, B2.out⟩
    · obtain ⟨hk, hf, _⟩ := HF2.out rfl
      subst hf
      obtain ⟨b, off, rfl, hb, c0, c1, c2, c3⟩ := HC.out PN hk
      have d1 := (B2.out.cell (p := ⟨b, off + PN * 4 + 1, none⟩) hb).trans c1
      have d2 := (B2.out.cell (p := ⟨b, off + PN * 4 + 2, none⟩) hb).trans c2
      have hk1 : (PN : Int) < (q.length : Int) := by omega
      have hk0 : (0 : Int) ≤ (PN : Int) := by omega
      have CL := hid (fun W => clone_any q[PN].ou W (by have := HO2.out PN hk; omega))
      simp only [fdN, fdS] at HN2 HS2
      clear HC HF0 HF2 HO2 c0 c1 c2 c3 hb
      generalize q[PN] = y at *
      obtain ⟨tk, su, ou, at_⟩ := y
      simp only at *
      by_cases he : su = s
      · have hn : RN = 1 := by rw [HN2.out, if_pos he]
        have hs : RS = ou := by rw [HS2.out, if_pos he]
        have g1 : (su.toList == s.toList) = true := by rw [he]; simp
        subst hn hs
        clear HN2 HS2 he
        go_wp2_with fail
        refine (CL.out _).mono ?_
        rintro e w3 ⟨rfl, b3⟩
        have B3 := hid (below_on B2.out b3)
        clear CL b3 B2 d1 d2
        go_wp2
        go_ret2
        exact ⟨rfl, B3.out⟩
      · have hn : RN = 2 := by rw [HN2.out, if_neg he]
        have hs : RS = ⟨#[]⟩ := by rw [HS2.out, if_neg he]
        have g1 : (su.toList == s.toList) = false := by rw [tl_eq, decide_eq_false he]
        subst hn hs
        clear HN2 HS2 he CL
        go_wp2
        go_ret2
        exact ⟨rfl, B2.out⟩
end Go.Proofs.Ytojiahdbgdgdcaa
namespace Go.Proofs.Ytojiahdbgdgdcaa
open Go.RowKit Go.Maps
set_option linter.unusedVariables false
set_option linter.unusedSimpArgs false

theorem own_lt {w : World} {B e s n g : Nat} {v : Value} {xs : List Value} (h : w.ownsRow B e s v n xs) (hg : v.ownBlock = some g) : g < w.heap.size := by
  rcases h.2 with ⟨e0, _⟩ | ⟨g1, c1, cur1, e0, _, hb, _⟩
  · rw [e0] at hg; simp [Value.ownBlock] at hg
  · rw [e0] at hg
    simp [Value.ownBlock] at hg
    subst hg
    exact (Array.getElem?_eq_some_iff.1 hb).1
set_option maxRecDepth 100000 in
set_option maxHeartbeats 4000000 in
theorem apart15_any (v : Value) (q : List Hd) (w : World) (hv : HdI w v q) (hl : q.length ≤ 1048576) (hs : ∀ y ∈ q, hdOk y = true) : Calls Try.prog 27 #[v] w fun e w' => ∃ ad cap, e = .returned (.slice ad q.length cap) ∧ OwnH w' w.heap.size 31 (.slice ad q.length cap) q ∧ Below w.heap.size w w' := by
  obtain ⟨ad, cap, rfl, hc⟩ := hv.form
  have HC := hid hc
  have HL := hid hl
  have HCL : Hid (∀ (k : Nat) (hk : k < q.length), (∀ W, Calls Try.prog 23 #[.string q[k].tk] W fun e w' => e = .returned (.string q[k].tk) ∧ Below W.heap.size W w') ∧ (∀ W, Calls Try.prog 23 #[.string q[k].su] W fun e w' => e = .returned (.string q[k].su) ∧ Below W.heap.size W w') ∧ (∀ W, Calls Try.prog 23 #[.string q[k].ou] W fun e w' => e = .returned (.string q[k].ou) ∧ Below W.heap.size W w')) := fun k hk => by
    have h := hdOk_sz (hs _ (List.getElem_mem hk))
    exact ⟨fun W => clone_any _ W (by omega), fun W => clone_any _ W (by omega), fun W => clone_any _ W (by omega)⟩
  have HTK : Hid (∀ (k : Nat) (hk : k < q.length), hqC (q.take (k + 1)) = hqC (q.take k) ++ hdC q[k]) := fun k hk => hqC_take q k hk
  have HZ : Hid (q.take q.length = q) := List.take_length
  have HR0 : Hid (w.ownsRow w.heap.size 31 4 (.slice none 0 0) 0 (hqC (q.take 0))) := ⟨rfl, .inl ⟨rfl, rfl⟩⟩
  clear hc hv hl hs
  go_enter Try.func27, Try.ntmps27
  go_wp2
  go_loopw [3, 8] (fun o i wr => ∃ (k : Nat) (ad1 : Option Addr) (cp1 : Nat), k ≤ q.length ∧ o = .slice ad1 k cp1 ∧ i = .int .i64 (k : Int) ∧ Hid (wr.ownsRow w.heap.size 31 4 (.slice ad1 k cp1) k (hqC (q.take k))) ∧ Hid (Below w.heap.size w wr)) (fun _ i _ => q.length - (intOf i).toNat)
  case atStart => exact ⟨0, none, 0, Nat.zero_le _, rfl, rfl, HR0, Below.refl _ _⟩
  case round =>
    clear HR0
    obtain ⟨k, ad1, cp1, hk, rfl, rfl, HR, HB⟩ := hrel
    by_cases hlt : k < q.length
    · have hk1 : (k : Int) < (q.length : Int) := by omega
      have hk0 : (0 : Int) ≤ (k : Int) := by omega
      obtain ⟨b, off, rfl, hb, c0, c1, c2, c3⟩ := HC.out k hlt
      have d0 := (HB.out.cell (p := ⟨b, off + k * 4, none⟩) hb).trans c0
      have d1 := (HB.out.cell (p := ⟨b, off + k * 4 + 1, none⟩) hb).trans c1
      have d2 := (HB.out.cell (p := ⟨b, off + k * 4 + 2, none⟩) hb).trans c2
      have d3 := (HB.out.cell (p := ⟨b, off + k * 4 + 3, none⟩) hb).trans c3
      have hwk : wrap64 ((k : Int) + 1) = ((k + 1 : Nat) : Int) := by have := HL.out; rw [IntWalk.wrap64_in _ (by omega)]; omega
      have HB1 : Hid (k + 1 ≤ 70368744177) := by have := HL.out; show _ ≤ _; omega
      have HB2 : Hid ((k + 1) * 56 ≤ 140737488355328) := by have := HL.out; show _ ≤ _; omega
      have HLT := hid hlt
      have HPL := hid (HTK.out k hlt)
      have CL := hid (HCL.out k hlt)
      have HO1 := hid (hdC_one q[k])
      have HX2 : Hid ((hdC q[k]).length = 1 * 4) := rfl
      have HXS : Hid (hdC q[k] = [.string q[k].tk, .string q[k].su, .string q[k].ou, .int .i64 q[k].at_]) := rfl
      clear HC c0 c1 c2 c3 HL hb HCL HTK HZ
      generalize q[k] = y at *
      obtain ⟨tk, su, ou, at_⟩ := y
      simp only at *
      generalize hdC _ = XS at *
      clear hlt hk
      have BM := hid (Bx.made (Below.refl wr.heap.size wr) [.string tk, .string su, .string ou, .int .i64 at_] 31)
      have y0 := BM.out.row.cellAt (o := 0) rfl
      have y1 := BM.out.row.cellAt (o := 1) rfl
      have y2 := BM.out.row.cellAt (o := 2) rfl
      have y3 := BM.out.row.cellAt (o := 3) rfl
      have HCE : Hid (∀ W, Bx wr wr.heap.size [.string tk, .string su, .string ou, .int .i64 at_] 31 W → W.cell? ⟨wr.heap.size, 0, none⟩ = some (.string tk) ∧ W.cell? ⟨wr.heap.size, 1, none⟩ = some (.string su) ∧ W.cell? ⟨wr.heap.size, 2, none⟩ = some (.string ou) ∧ W.cell? ⟨wr.heap.size, 3, none⟩ = some (.int .i64 at_)) := fun W h => ⟨h.row.cellAt rfl, h.row.cellAt rfl, h.row.cellAt rfl, h.row.cellAt rfl⟩
      have CL0 : Hid (∀ W, Bx wr wr.heap.size [.string tk, .string su, .string ou, .int .i64 at_] 31 W → Calls Try.prog 23 #[.string tk] W fun e w' => e = .returned (.string tk) ∧ (w'.cell? ⟨wr.heap.size, 0, none⟩ = some (.string tk) ∧ w'.cell? ⟨wr.heap.size, 1, none⟩ = some (.string su) ∧ w'.cell? ⟨wr.heap.size, 2, none⟩ = some (.string ou) ∧ w'.cell? ⟨wr.heap.size, 3, none⟩ = some (.int .i64 at_)) ∧ Hid (Bx wr wr.heap.size [.string tk, .string su, .string ou, .int .i64 at_] 31 w')) := fun W hW => (CL.out.1 W).mono fun e w' ⟨he, hb⟩ => ⟨he, HCE.out _ (hW.next hb), hW.next hb⟩
      have CL1 : Hid (∀ W, Bx wr wr.heap.size [.string tk, .string su, .string ou, .int .i64 at_] 31 W → Calls Try.prog 23 #[.string su] W fun e w' => e = .returned (.string su) ∧ (w'.cell? ⟨wr.heap.size, 0, none⟩ = some (.string tk) ∧ w'.cell? ⟨wr.heap.size, 1, none⟩ = some (.string su) ∧ w'.cell? ⟨wr.heap.size, 2, none⟩ = some (.string ou) ∧ w'.cell? ⟨wr.heap.size, 3, none⟩ = some (.int .i64 at_)) ∧ Hid (Bx wr wr.heap.size [.string tk, .string su, .string ou, .int .i64 at_] 31 w')) := fun W hW => (CL.out.2.1 W).mono fun e w' ⟨he, hb⟩ => ⟨he, HCE.out _ (hW.next hb), hW.next hb⟩
      have CL2 : Hid (∀ W, Bx wr wr.heap.size [.string tk, .string su, .string ou, .int .i64 at_] 31 W → Calls Try.prog 23 #[.string ou] W fun e w' => e = .returned (.string ou) ∧ (w'.cell? ⟨wr.heap.size, 0, none⟩ = some (.string tk) ∧ w'.cell? ⟨wr.heap.size, 1, none⟩ = some (.string su) ∧ w'.cell? ⟨wr.heap.size, 2, none⟩ = some (.string ou) ∧ w'.cell? ⟨wr.heap.size, 3, none⟩ = some (.int .i64 at_)) ∧ Hid (Bx wr wr.heap.size [.string tk, .string su, .string ou, .int .i64 at_] 31 w')) := fun W hW => (CL.out.2.2 W).mono fun e w' ⟨he, hb⟩ => ⟨he, HCE.out _ (hW.next hb), hW.next hb⟩
      have HGA : Hid (∀ W, Below wr.heap.size wr W → (W.alloc (.cells #[.string tk, .string su, .string ou, .int .i64 at_] 31)).ownsRow w.heap.size 31 4 (.slice ad1 k cp1) k (hqC (q.take k))) := fun W hW => ((below_al hW _).keep (fun _ => False)).ownsRow HR.out (fun _ _ h => h)
      have HSZ : Hid (∀ W, Below wr.heap.size wr W → w.heap.size ≤ (W.alloc (.cells #[.string tk, .string su, .string ou, .int .i64 at_] 31)).heap.size) := fun W hW => Nat.le_trans HB.out.size (below_al hW _).size
      have HGX : Hid (∀ W : World, GSrc (W.alloc (.cells #[.string tk, .string su, .string ou, .int .i64 at_] 31)) (.slice (some ⟨W.heap.size, 0, none⟩) 1 1) 1 XS) := fun W => by
        rw [HXS.out]; exact gsrc_block (heap_alloc_new _ _)
      have HC5 : Hid (∀ W w' : World, Bx wr wr.heap.size [.string tk, .string su, .string ou, .int .i64 at_] 31 W → Keep (fun j => (Value.slice ad1 k cp1).ownBlock = some j) W w' → w'.cell? ⟨wr.heap.size, 0, none⟩ = some (.string tk) ∧ w'.cell? ⟨wr.heap.size, 1, none⟩ = some (.string su) ∧ w'.cell? ⟨wr.heap.size, 2, none⟩ = some (.string ou) ∧ w'.cell? ⟨wr.heap.size, 3, none⟩ = some (.int .i64 at_)) := fun W w' h kk => by
        have hne : ¬ (Value.slice ad1 k cp1).ownBlock = some wr.heap.size := fun e => by have := own_lt HR.out e; omega
        have r := h.row.keep kk hne
        exact ⟨r.cellAt rfl, r.cellAt rfl, r.cellAt rfl, r.cellAt rfl⟩
      have FIN : Hid (∀ ad' cap' W w', Below wr.heap.size wr W → w'.ownsRow w.heap.size 31 4 (.slice ad' (k + 1) cap') (k + 1) (hqC (q.take k) ++ XS) → Keep (fun j => (Value.slice ad1 k cp1).ownBlock = some j) W w' → Hid (w'.ownsRow w.heap.size 31 4 (.slice ad' (k + 1) cap') (k + 1) (hqC (q.take (k + 1)))) ∧ Hid (Below w.heap.size w w')) := fun ad' cap' W w' hW hr hk' => by
        refine ⟨?_, (below_on HB.out hW).trans (keep_below hk' (fun j hj e => by have := ownsRow_ge HR.out e; omega) (Nat.le_trans HB.out.size hW.size))⟩
        show World.ownsRow _ _ _ _ _ _ _
        rw [HPL.out]; exact hr
      clear HR HB HPL HXS CL
      go_wp2
      refine wp_region_held_drew (S := (fun w' => w'.cell? ⟨wr.heap.size, 0, none⟩ = some (.string tk) ∧ w'.cell? ⟨wr.heap.size, 1, none⟩ = some (.string su) ∧ w'.cell? ⟨wr.heap.size, 2, none⟩ = some (.string ou) ∧ w'.cell? ⟨wr.heap.size, 3, none⟩ = some (.int .i64 at_))) (by kernel_rfl) ⟨y0, y1, y2, y3⟩ (fun hHeld => ?_)
      refine wpAnyH_take (i := 0) (v := ?vv1) rfl (by kernel_rfl) (by kernel_rfl) (by kernel_rfl) (fun _ _ _ h => h) (Or.inl ⟨by rfl, ?hy1⟩) (by assumption) ?rest1
      case hy1 => (intro w hSw; (try dsimp only at hSw); go_simp; first | done | with_reducible rfl)
      try simp only [Act.put, List.getElem_toArray, List.getElem_cons_succ, List.getElem_cons_zero, List.setIfInBounds_toArray, List.set_cons_zero, List.set_cons_succ]
      refine wpAnyH_take (i := 1) (v := ?vv2) rfl (by kernel_rfl) (by kernel_rfl) (by kernel_rfl) (fun _ _ _ h => h) (Or.inl ⟨by rfl, ?hy2⟩) (by assumption) ?rest2
      case hy2 => (intro w hSw; (try dsimp only at hSw); go_simp; first | done | with_reducible rfl)
      try simp only [Act.put, List.getElem_toArray, List.getElem_cons_succ, List.getElem_cons_zero, List.setIfInBounds_toArray, List.set_cons_zero, List.set_cons_succ]
      refine wpAnyH_take (i := 2) (v := ?vv3) rfl (by kernel_rfl) (by kernel_rfl) (by kernel_rfl) (fun _ _ _ h => h) (Or.inl ⟨by rfl, ?hy3⟩) (by assumption) ?rest3
      case hy3 => (intro w hSw; (try dsimp only at hSw); go_simp; first | done | with_reducible rfl)
      try simp only [Act.put, List.getElem_toArray, List.getElem_cons_succ, List.getElem_cons_zero, List.setIfInBounds_toArray, List.set_cons_zero, List.set_cons_succ]
      refine wpAnyH_take (i := 4) (v := ?vv4) rfl (by kernel_rfl) (by kernel_rfl) (by kernel_rfl) (fun _ _ _ h => h) (Or.inl ⟨by rfl, ?hy4⟩) (by assumption) ?rest4
      case hy4 => (intro w hSw; (try dsimp only at hSw); go_simp; first | done | with_reducible rfl)
      try simp only [Act.put, List.getElem_toArray, List.getElem_cons_succ, List.getElem_cons_zero, List.setIfInBounds_toArray, List.set_cons_zero, List.set_cons_succ]
      refine wpAnyH_take (i := 5) (v := ?vv5) rfl (by kernel_rfl) (by kernel_rfl) (by kernel_rfl) (fun _ _ _ h => h) (Or.inl ⟨by rfl, ?hy5⟩) (by assumption) ?rest5
      case hy5 => (intro w hSw; (try dsimp only at hSw); go_simp; first | done | with_reducible rfl)
      try simp only [Act.put, List.getElem_toArray, List.getElem_cons_succ, List.getElem_cons_zero, List.setIfInBounds_toArray, List.set_cons_zero, List.set_cons_succ]
      refine wpAnyH_take (i := 7) (v := ?vv6) rfl (by kernel_rfl) (by kernel_rfl) (by kernel_rfl) (fun _ _ _ h => h) (Or.inl ⟨by rfl, ?hy6⟩) (by assumption) ?rest6
      case hy6 => (intro w hSw; (try dsimp only at hSw); go_simp; first | done | with_reducible rfl)
      try simp only [Act.put, List.getElem_toArray, List.getElem_cons_succ, List.getElem_cons_zero, List.setIfInBounds_toArray, List.set_cons_zero, List.set_cons_succ]
      refine wpAnyH_take (i := 8) (v := ?vv7) rfl (by kernel_rfl) (by kernel_rfl) (by kernel_rfl) (fun _ _ _ h => h) (Or.inl ⟨by rfl, ?hy7⟩) (by assumption) ?rest7
      case hy7 => (intro w hSw; (try dsimp only at hSw); go_simp; first | done | with_reducible rfl)
      try simp only [Act.put, List.getElem_toArray, List.getElem_cons_succ, List.getElem_cons_zero, List.setIfInBounds_toArray, List.set_cons_zero, List.set_cons_succ]
      refine wpAnyH_take (i := 10) (v := ?vv8) rfl (by kernel_rfl) (by kernel_rfl) (by kernel_rfl) (fun _ _ _ h => h) (Or.inl ⟨by rfl, ?hy8⟩) (by assumption) ?rest8
      case hy8 => (intro w hSw; (try dsimp only at hSw); go_simp; first | done | with_reducible rfl)
      try simp only [Act.put, List.getElem_toArray, List.getElem_cons_succ, List.getElem_cons_zero, List.setIfInBounds_toArray, List.set_cons_zero, List.set_cons_succ]
      refine wpAnyH_take (i := 11) (v := ?vv9) rfl (by kernel_rfl) (by kernel_rfl) (by kernel_rfl) (fun _ _ _ h => h) (Or.inl ⟨by rfl, ?hy9⟩) (by assumption) ?rest9
      case hy9 => (intro w hSw; (try dsimp only at hSw); go_simp; first | done | with_reducible rfl)
      try simp only [Act.put, List.getElem_toArray, List.getElem_cons_succ, List.getElem_cons_zero, List.setIfInBounds_toArray, List.set_cons_zero, List.set_cons_succ]
      refine wpAnyH_ready (rs := [3]) (by kernel_rfl) (by simp) ?_
      refine AllReadyH.cons rfl (fun K hK => ?_) AllReadyH.nil
      go_simp
      refine (CL0.out _ BM.out.drew).mono ?_
      rintro e w1 ⟨rfl, ZCw1, Bw1⟩
      go_wp2_with fail
      refine hK.out _ _ ZCw1 (fun hHeld => ?_)
      clear hK K
      try simp only [Act.put, List.getElem_toArray, List.getElem_cons_succ, List.getElem_cons_zero, List.setIfInBounds_toArray, List.set_cons_zero, List.set_cons_succ]
      refine wpAnyH_ready (rs := [6]) (by kernel_rfl) (by simp) ?_
      refine AllReadyH.cons rfl (fun K hK => ?_) AllReadyH.nil
      go_simp
      refine (CL1.out _ Bw1.out).mono ?_
      rintro e w2 ⟨rfl, ZCw2, Bw2⟩
      go_wp2_with fail
      refine hK.out _ _ ZCw2 (fun hHeld => ?_)
      clear hK K
      try simp only [Act.put, List.getElem_toArray, List.getElem_cons_succ, List.getElem_cons_zero, List.setIfInBounds_toArray, List.set_cons_zero, List.set_cons_succ]
      refine wpAnyH_ready (rs := [9]) (by kernel_rfl) (by simp) ?_
      refine AllReadyH.cons rfl (fun K hK => ?_) AllReadyH.nil
      go_simp
      refine (CL2.out _ Bw2.out).mono ?_
      rintro e w3 ⟨rfl, ZCw3, Bw3⟩
      go_wp2_with fail
      refine hK.out _ _ ZCw3 (fun hHeld => ?_)
      clear hK K
      try simp only [Act.put, List.getElem_toArray, List.getElem_cons_succ, List.getElem_cons_zero, List.setIfInBounds_toArray, List.set_cons_zero, List.set_cons_succ]
      refine wpAnyH_take (i := 12) (v := ?vv10) rfl (by kernel_rfl) (by kernel_rfl) (by kernel_rfl) (fun _ _ _ h => h) (Or.inl ⟨by rfl, ?hy10⟩) (by assumption) ?rest10
      case hy10 => (intro w hSw; (try dsimp only at hSw); go_simp; first | done | with_reducible rfl)
      try simp only [Act.put, List.getElem_toArray, List.getElem_cons_succ, List.getElem_cons_zero, List.setIfInBounds_toArray, List.set_cons_zero, List.set_cons_succ]
      refine wpAnyH_ready (rs := [13]) (by kernel_rfl) (by simp) ?_
      refine AllReadyH.cons rfl (fun K hK => ?_) AllReadyH.nil
      go_simp
      have B4 := hid (Bw3.out.al (.cells #[.string tk, .string su, .string ou, .int .i64 at_] 31))
      refine hK.out _ _ (HCE.out _ B4.out) (fun hHeld => ?_)
      clear hK K
      try simp only [Act.put, List.getElem_toArray, List.getElem_cons_succ, List.getElem_cons_zero, List.setIfInBounds_toArray, List.set_cons_zero, List.set_cons_succ]
      refine wpAnyH_ready (rs := [14]) (by kernel_rfl) (by simp) ?_
      refine AllReadyH.cons rfl (fun K hK => ?_) AllReadyH.nil
      refine step_gapp (w0 := w3.alloc (.cells #[.string tk, .string su, .string ou, .int .i64 at_] 31)) (by rfl) _ _ elH (by rfl) w.heap.size (.slice ad1 k cp1) (.slice (some ⟨w3.heap.size, 0, none⟩) 1 1) (hqC (q.take k)) XS k 1 (k + 1) (by rfl) (Keep.refl _ _) (by rfl) (by rfl) (HGA.out _ Bw3.out.b) (HSZ.out _ Bw3.out.b) (HGX.out _) HX2.out HO1.out HB1.out HB2.out ?_
      intro ad' cap' w' hr' hk'
      have ZC5 := HC5.out _ _ B4.out hk'
      refine hK.out _ _ ZC5 (fun hHeld => ?_)
      clear hK K
      try simp only [Act.put, List.getElem_toArray, List.getElem_cons_succ, List.getElem_cons_zero, List.setIfInBounds_toArray, List.set_cons_zero, List.set_cons_succ]
      refine wpAnyH_take (i := 15) (v := ?vv11) rfl (by kernel_rfl) (by kernel_rfl) (by kernel_rfl) (fun _ _ _ h => h) (Or.inl ⟨by rfl, ?hy11⟩) (by assumption) ?rest11
      case hy11 => (intro w hSw; (try dsimp only at hSw); go_simp; first | done | with_reducible rfl)
      try simp only [Act.put, List.getElem_toArray, List.getElem_cons_succ, List.getElem_cons_zero, List.setIfInBounds_toArray, List.set_cons_zero, List.set_cons_succ]
      refine wpAnyH_done (by kernel_rfl) ?_ _
      obtain ⟨F1, F2⟩ := FIN.out _ _ _ _ B4.out.b hr' hk'
      clear hHeld ZC5 hr' hk' FIN HGA HGX HSZ HC5 B4 CL0 CL1 CL2 HCE d0 d1 d2 d3 y0 y1 y2 y3 ZCw1 ZCw2 ZCw3 Bw1 Bw2 Bw3 BM
      go_wp2
      exact ⟨⟨k + 1, _, _, HLT.out, rfl, by first | rw [hwk] | rfl | simp, F1, F2⟩, by (try rw [hwk]); have := HLT.out; simp [intOf]; omega⟩
    · have hke : k = q.length := by omega
      have hd : decide ((k : Int) < (q.length : Int)) = false := decide_eq_false (by omega)
      have hd2 : decide (k < q.length) = false := decide_eq_false hlt
      have HF : Hid (wr.ownsRow w.heap.size 31 4 (.slice ad1 k cp1) q.length (hqC q)) := by
        have := HR.out
        rw [hke, HZ.out] at this
        rw [hke]
        exact this
      have HKE := hid hke
      clear HC HTK HZ HR HL hke hlt hk HCL
      go_wp2
      go_ret
      refine ⟨ad1, cp1, ?_, ?_, HB.out⟩
      · rw [HKE.out]; rfl
      · have := HF.out; rw [HKE.out] at this; exact this
end Go.Proofs.Ytojiahdbgdgdcaa
namespace Go.Proofs.Ytojiahdbgdgdcaa
open Go.RowKit Go.Maps
set_option linter.unusedVariables false
set_option linter.unusedSimpArgs false

--GROW
set_option maxRecDepth 100000 in
set_option maxHeartbeats 1000000 in
theorem growH_any (n : Nat) (w : World) (hn : n ≤ 1048576) : Calls Try.prog 51 #[.slice none 0 0, .int .i64 (n : Int)] w fun e w' => ∃ ad cap, e = .returned (.slice ad 0 cap) ∧ w'.ownsRow w.heap.size 31 4 (.slice ad 0 cap) 0 [] ∧ Below w.heap.size w w' := by
  by_cases h0 : n = 0
  · subst h0
    have HF : Hid (w.ownsRow w.heap.size 31 4 (.slice none 0 0) 0 []) := ⟨rfl, .inl ⟨rfl, rfl⟩⟩
    go_enter Try.func51, Try.ntmps51
    go_wp2
    go_ret
    exact ⟨none, 0, rfl, HF.out, Below.refl _ _⟩
  · have hd : decide ((n : Int) < 0) = false := decide_eq_false (by omega)
    have hd1 : decide (0 < (n : Int)) = true := decide_eq_true (by omega)
    have hd2 : decide (0 < n) = true := decide_eq_true (by omega)
    have hw : wrap64 (n : Int) = (n : Int) := by rw [IntWalk.wrap64_in _ (by omega)]
    have hw2 : wrap64 ((n : Int) - 0) = (n : Int) := by rw [Int.sub_zero, hw]
    have HG : Hid (∀ ty, ∃ cap w', (Builtin.append_ #[22, 3] ty #[.slice none 0 0, .int .i64 (n : Int)]).run Try.prog w = .ok (.slice (some ⟨w.heap.size, 0, none⟩) n cap) w' ∧ w'.ownsRow w.heap.size 31 4 (.slice (some ⟨w.heap.size, 0, none⟩) 0 cap) 0 [] ∧ Below w.heap.size w w') := fun ty => run_grow0 elH w ty n (by omega) hn (by decide)
    have hsl : ∀ W : World, (Instr.slice 22 (.slice none 0 0) none (some (.int .i64 0)) none).run Try.prog W = .ok (.slice none 0 0) W := fun W => by
      obtain ⟨z, hz, _⟩ := elH.inf
      obtain ⟨i0, hi, _⟩ := Option.map_eq_some_iff.1 hz
      simp [Instr.slice, Instr.sliceBounds, Instr.sliceBound, asIntOf, run_underlying elH.und, sizeOf, typeInfo, hi, Result.andThen]
    have HS2 : Hid (∀ (cap : Nat) (W : World), (Instr.slice 22 (.slice (some ⟨w.heap.size, 0, none⟩) n cap) none (some (.int .i64 0)) none).run Try.prog W = .ok (.slice (some ⟨w.heap.size, 0, none⟩) 0 cap) W) := fun cap W => by
      obtain ⟨z, hz, _⟩ := elH.inf
      obtain ⟨i0, hi, _⟩ := Option.map_eq_some_iff.1 hz
      simp [Instr.slice, Instr.sliceBounds, Instr.sliceBound, asIntOf, run_underlying elH.und, sizeOf, typeInfo, hi, Result.andThen, Addr.add]
    clear h0 hn
    obtain ⟨cap, w1, hr, ho, hb⟩ := HG.out 22
    have hs2 := HS2.out cap
    have HR : Hid ((Builtin.append_ #[22, 3] 22 #[.slice none 0 0, .int .i64 (wrap64 (n : Int))]).run Try.prog w = .ok (.slice (some ⟨w.heap.size, 0, none⟩) n cap) w1) := by rw [hw]; exact hr
    have hd3 : decide (0 < wrap64 (n : Int)) = true := by rw [hw]; exact hd1
    clear hw hw2
    have HO := hid ho
    have HB := hid hb
    clear HG HS2 hr ho hb
    go_enter Try.func51, Try.ntmps51
    go_wp2_with (at_builtin; refine Lib.wpList_append_run _ rfl _ _ _ _ rfl _ _ rfl rfl _ _ HR.out ?_)
    go_wp2
    go_ret
    exact ⟨_, cap, rfl, HO.out, HB.out⟩
set_option maxRecDepth 100000 in
set_option maxHeartbeats 2000000 in
theorem concatH_any (v : Value) (l : List Sr) (w : World) (hv : SrI w 4 v l) (hl : l.length ≤ 1048576) (hn : srN l ≤ 1048576) : Calls Try.prog 28 #[v] w fun e w' => ∃ ad cap, e = .returned (.slice ad (srN l) cap) ∧ w'.ownsRow w.heap.size 31 4 (.slice ad (srN l) cap) (srN l) (srC l) ∧ Below w.heap.size w w' := by
  obtain ⟨ad, cap, rfl, hc⟩ := hv.form
  have HC := hid hc
  have HL := hid hl
  have HNL : Hid (∀ k, srN (l.take k) ≤ 1048576) := fun k => Nat.le_trans (srN_le l k) hn
  have HTN : Hid (∀ (k : Nat) (hk : k < l.length), srN (l.take (k + 1)) = srN (l.take k) + l[k].n) := fun k hk => srN_take l k hk
  have HTC : Hid (∀ (k : Nat) (hk : k < l.length), srC (l.take (k + 1)) = srC (l.take k) ++ l[k].cs) := fun k hk => srC_take l k hk
  have HZ : Hid (l.take l.length = l) := List.take_length
  have GR : Hid (∀ W, Calls Try.prog 51 #[.slice none 0 0, .int .i64 (srN l : Int)] W fun e w' => ∃ ad cap, e = .returned (.slice ad 0 cap) ∧ w'.ownsRow W.heap.size 31 4 (.slice ad 0 cap) 0 [] ∧ Below W.heap.size W w') := fun W => growH_any _ W hn
  clear hc hv hl hn
  go_enter Try.func28, Try.ntmps28
  go_wp2
  go_loopw [3, 11] (fun s i wr => ∃ (k : Nat), k ≤ l.length ∧ s = .int .i64 (srN (l.take k) : Nat) ∧ i = .int .i64 (k : Int) ∧ wr = w) (fun _ i _ => l.length - (intOf i).toNat)
  case atStart => exact ⟨0, Nat.zero_le _, rfl, rfl, rfl⟩
  case round =>
    obtain ⟨k, hk, rfl, rfl, hwr⟩ := hrel
    have hwr2 := hwr.symm
    subst hwr2
    clear hwr
    by_cases hlt : k < l.length
    · have hk1 : (k : Int) < (l.length : Int) := by omega
      have hk0 : (0 : Int) ≤ (k : Int) := by omega
      obtain ⟨b, off, rfl, hb, c0, hr, hcl, hc1⟩ := HC.out k hlt
      obtain ⟨ad1, cap1, e1, hfm⟩ := RowC.form hr
      clear hcl hc1 hfm
      have hwk : wrap64 ((k : Int) + 1) = ((k + 1 : Nat) : Int) := by have := HL.out; rw [IntWalk.wrap64_in _ (by omega)]; omega
      have HTN1 := hid (HTN.out k hlt)
      have hB1 := HNL.out (k + 1)
      have HLT := hid hlt
      have hws : wrap64 ((srN (l.take k) : Int) + (l[k].n : Int)) = (srN (l.take (k + 1)) : Int) := by rw [HTN1.out] at hB1 ⊢; rw [IntWalk.wrap64_in _ (by omega)]; omega
      have hneg : decide ((srN (l.take (k + 1)) : Int) < 0) = false := decide_eq_false (by omega)
      clear HC HNL HTN HTC HZ GR hr hb HTN1 hB1
      rw [e1] at c0
      clear e1
      generalize l[k].n = n1 at *
      generalize srN (l.take k) = S0 at *
      generalize hs1 : srN (l.take (k + 1)) = S1 at *
      have HS1 := hid hs1
      clear hs1 hlt hk
      go_wp2
      exact ⟨⟨k + 1, HLT.out, by rw [HS1.out]; first | rfl | rw [hws] | simp, by first | rw [hwk] | rfl | simp, by trivial⟩, by (try rw [hwk]); have := HLT.out; simp [intOf]; omega⟩
    · have hke : k = l.length := by omega
      have hd : decide ((k : Int) < (l.length : Int)) = false := decide_eq_false (by omega)
      have hd2 : decide (k < l.length) = false := decide_eq_false hlt
      have hsr : srN (l.take k) = srN l := by rw [hke, HZ.out]
      rw [hsr]
      clear hke hsr hlt hk
      go_wp2_with fail
      refine (GR.out _).mono ?_
      rintro e w1 ⟨ad1, cp1, rfl, ho1, hb1⟩
      have R0 : Hid (w1.ownsRow w.heap.size 31 4 (.slice ad1 (srN (l.take 0)) cp1) (srN (l.take 0)) (srC (l.take 0))) := ho1
      have B0 := hid hb1
      clear ho1 hb1 GR
      go_wp2
      go_loopw [6, 27] (fun o i w2 => ∃ (k : Nat) (ad2 : Option Addr) (cp2 : Nat), k ≤ l.length ∧ o = .slice ad2 (srN (l.take k)) cp2 ∧ i = .int .i64 (k : Int) ∧ Hid (w2.ownsRow w.heap.size 31 4 (.slice ad2 (srN (l.take k)) cp2) (srN (l.take k)) (srC (l.take k))) ∧ Hid (Below w.heap.size w w2)) (fun _ i _ => l.length - (intOf i).toNat)
      case atStart => exact ⟨0, ad1, cp1, Nat.zero_le _, rfl, rfl, R0, B0⟩
      case round =>
        clear R0 B0 hd hd2
        obtain ⟨j, ad2, cp2, hj, rfl, rfl, HR, HB⟩ := hrel
        by_cases hjt : j < l.length
        · have hk1 : (j : Int) < (l.length : Int) := by omega
          have hk0 : (0 : Int) ≤ (j : Int) := by omega
          obtain ⟨b, off, rfl, hb, c0, hr, hcl, hc1⟩ := HC.out j hjt
          obtain ⟨ad3, cap3, e1, hfm⟩ := RowC.form hr
          clear hfm
          have hwk : wrap64 ((j : Int) + 1) = ((j + 1 : Nat) : Int) := by have := HL.out; rw [IntWalk.wrap64_in _ (by omega)]; omega
          have d0 := (HB.out.cell (p := ⟨b, off + j, none⟩) hb).trans c0
          have HX := hid (hr.next HB.out)
          rw [e1] at d0 HX
          have HTN1 := hid (HTN.out j hjt)
          have HTC1 := hid (HTC.out j hjt)
          have HCL := hid hcl
          have HC1 := hid hc1
          have HLT := hid hjt
          have HBb : Hid (srN (l.take j) + l[j].n ≤ 1048576) := by have := HNL.out (j + 1); rw [HTN1.out] at this; exact this
          have HB1 : Hid (srN (l.take j) + l[j].n ≤ 4611686018427387904) := by have := HBb.out; show _ ≤ _; omega
          have HB2 : Hid ((srN (l.take j) + l[j].n) * 56 ≤ 140737488355328) := by have := HBb.out; show _ ≤ _; omega
          have HSZ := hid HB.out.size
          clear HC HNL HTN HTC HZ hr hb hcl hc1 c0 e1 HBb
          have FIN : Hid (∀ ad' cap' w', w'.ownsRow w.heap.size 31 4 (.slice ad' (srN (l.take j) + l[j].n) cap') (srN (l.take j) + l[j].n) (srC (l.take j) ++ l[j].cs) → Keep (fun g => (Value.slice ad2 (srN (l.take j)) cp2).ownBlock = some g) wr w' → Hid (w'.ownsRow w.heap.size 31 4 (.slice ad' (srN (l.take (j + 1))) cap') (srN (l.take (j + 1))) (srC (l.take (j + 1)))) ∧ Hid (Below w.heap.size w w')) := fun ad' cap' w' hr' hk' => by
            refine ⟨?_, HB.out.trans (keep_below hk' (fun g hg e => by have := ownsRow_ge HR.out e; omega) HB.out.size)⟩
            show World.ownsRow _ _ _ _ _ _ _
            rw [HTN1.out, HTC1.out]; exact hr'
          generalize hs0 : srN (l.take j) = S0 at *
          clear hs0
          generalize hs1 : srN (l.take (j + 1)) = S1 at *
          have hs2 : S1 = S0 + l[j].n := HTN1.out
          have HS1 := hid hs1
          clear HTN1 HTC1 hs1
          generalize srC (l.take j) = PA at *
          generalize l[j] = y at *
          obtain ⟨yv, yn, ycs⟩ := y
          simp only at *
          subst hs2
          clear hjt hj
          go_wp2_with (at_builtin; refine wpl_gappR rfl _ _ elH rfl w.heap.size (.slice ad2 S0 cp2) (.slice ad3 yn cap3) PA ycs S0 yn (S0 + yn) rfl rfl rfl HR.out HSZ.out HX.out HCL.out HC1.out HB1.out HB2.out ?_; intro ad' cap' w' hr' hk')
          obtain ⟨F1, F2⟩ := FIN.out _ _ _ hr' hk'
          clear hr' hk' FIN HR HX HSZ d0
          go_wp2
          refine ⟨⟨j + 1, ad', cap', HLT.out, by rw [HS1.out], by first | rw [hwk] | rfl | simp, ?_, F2⟩, by (try rw [hwk]); have := HLT.out; simp [intOf]; omega⟩
          rw [HS1.out]; exact F1
        · have hke : j = l.length := by omega
          have hd : decide ((j : Int) < (l.length : Int)) = false := decide_eq_false (by omega)
          have hd2 : decide (j < l.length) = false := decide_eq_false hjt
          have hsr : l.take j = l := by rw [hke, HZ.out]
          rw [hsr] at HR ⊢
          clear HC HNL HTN HTC HZ HL hke hjt hj hsr
          go_wp2
          go_ret
          exact ⟨ad2, cp2, rfl, HR.out, HB.out⟩
--ENDGROW
end Go.Proofs.Ytojiahdbgdgdcaa
namespace Go.Proofs.Ytojiahdbgdgdcaa
open Go.RowKit Go.Maps
set_option linter.unusedVariables false
set_option linter.unusedSimpArgs false

def insH (l : List Hd) (h : Hd) : List Hd := l.take (plH l h.tk) ++ h :: l.drop (plH l h.tk)
def noteE (l : List Hd) (h : Hd) : Int := if isTb l = true ∧ hdOk h = true then (if hasH l h.tk = true then 71 else if l.length = 64 then 131 else 0) else 1
def noteL (l : List Hd) (h : Hd) : List Hd := if noteE l h = 0 then insH l h else []
theorem insH_len (l : List Hd) (h : Hd) : (insH l h).length = l.length + 1 := by
  have := plH_le l h.tk
  simp [insH]; omega
theorem insH_mem (l : List Hd) (h x : Hd) : x ∈ insH l h ↔ x = h ∨ x ∈ l := by
  unfold insH
  have e : l = l.take (plH l h.tk) ++ l.drop (plH l h.tk) := (List.take_append_drop ..).symm
  constructor
  · intro hx
    rcases List.mem_append.1 hx with hx | hx
    · exact .inr (List.mem_of_mem_take hx)
    · rcases List.mem_cons.1 hx with hx | hx
      · exact .inl hx
      · exact .inr (List.mem_of_mem_drop hx)
  · rintro (hx | hx)
    · subst hx; simp
    · rw [e] at hx
      rcases List.mem_append.1 hx with hx | hx
      · exact List.mem_append.2 (.inl hx)
      · exact List.mem_append.2 (.inr (List.mem_cons_of_mem _ hx))
/-- a call that gives kept tokens and a number -/
def GiveH (w : World) (t : Nat) (l : List Hd) (x : Int) (e : Ending) (w' : World) : Prop := ∃ ad cap, e = .returned (.tuple #[.slice ad l.length cap, .int .i64 x]) ∧ OwnH w' w.heap.size t (.slice ad l.length cap) l ∧ Below w.heap.size w w'
theorem giveH_none {w w' : World} {t : Nat} {x : Int} (h : Below w.heap.size w w') : GiveH w t [] x (.returned (.tuple #[.slice none 0 0, .int .i64 x])) w' := ⟨none, 0, rfl, ownH_nil _ _ _, h⟩
theorem note_srow (W : World) (ad4 : Option Addr) (n4 cap4 : Nat) (ad5 : Option Addr) (n5 cap5 g : Nat) (c4 c5 cm : List Value)
    (h4 : RowC W (.slice ad4 n4 cap4) n4 c4) (h5 : RowC W (.slice ad5 n5 cap5) n5 c5) (hm : RowC W (.slice (some ⟨g, 0, none⟩) 1 1) 1 cm) (l4 : c4.length = n4 * 4) (l5 : c5.length = n5 * 4) (lm : cm.length = 1 * 4) (o4 : ∀ u ∈ c4, u.oneCell' = true) (o5 : ∀ u ∈ c5, u.oneCell' = true) (om : ∀ u ∈ cm, u.oneCell' = true) :
    SrI (W.alloc (.cells #[.slice ad4 n4 cap4, .slice (some ⟨g, 0, none⟩) 1 1, .slice ad5 n5 cap5] 22)) 4 (.slice (some ⟨W.heap.size, 0, none⟩) 3 3) [⟨.slice ad4 n4 cap4, n4, c4⟩, ⟨.slice (some ⟨g, 0, none⟩) 1 1, 1, cm⟩, ⟨.slice ad5 n5 cap5, n5, c5⟩] where
  row := RowC.own (own_made W [.slice ad4 n4 cap4, .slice (some ⟨g, 0, none⟩) 1 1, .slice ad5 n5 cap5] 22 1 3 0 (Nat.zero_le _) rfl (by omega))
  each := by
    have hb : Below W.heap.size W (W.alloc (.cells #[.slice ad4 n4 cap4, .slice (some ⟨g, 0, none⟩) 1 1, .slice ad5 n5 cap5] 22)) := below_al (Below.refl _ _) _
    intro x hx
    simp at hx
    rcases hx with rfl | rfl | rfl
    · exact ⟨h4.next hb, l4, o4⟩
    · exact ⟨hm.next hb, lm, om⟩
    · exact ⟨h5.next hb, l5, o5⟩
theorem hqC_tk (l : List Hd) (k : Nat) (hk : k ≤ l.length) : (hqC l).take (k * 4) = hqC (l.take k) := by
  have e : hqC l = hqC (l.take k) ++ hqC (l.drop k) := by rw [← hqC_app, List.take_append_drop]
  have hl : (hqC (l.take k)).length = k * 4 := by rw [hqC_len, List.length_take, Nat.min_eq_left hk]
  rw [e, ← hl, List.take_left]
theorem hqC_dr (l : List Hd) (k : Nat) (hk : k ≤ l.length) : (hqC l).drop (k * 4) = hqC (l.drop k) := by
  have e : hqC l = hqC (l.take k) ++ hqC (l.drop k) := by rw [← hqC_app, List.take_append_drop]
  have hl : (hqC (l.take k)).length = k * 4 := by rw [hqC_len, List.length_take, Nat.min_eq_left hk]
  rw [e, ← hl, List.drop_left]
set_option maxRecDepth 100000 in
set_option maxHeartbeats 4000000 in
theorem note15_any (v : Value) (q : List Hd) (h : Hd) (w : World) (hv : HdI w v q) : Calls Try.prog 12 #[v, hdV h] w (GiveH w 31 (noteL q h) (noteE q h)) := by
  obtain ⟨ad, cap, rfl, hc⟩ := hv.form
  clear hc
  have BM := hid (Bx.made (Below.refl w.heap.size w) [.string h.tk, .string h.su, .string h.ou, .int .i64 h.at_] 31)
  have IT := hid (isTable_any _ q _ (hv.next BM.out.b))
  have MB := hid (fun W => mayBe_any h W)
  have PL : Hid (∀ W, Below w.heap.size w W → isTb q = true → Calls Try.prog 22 #[.slice ad q.length cap, .string h.tk] W fun e w' => e = .returned (.tuple #[.int .i64 (plH q h.tk : Nat), .bool (hasH q h.tk)]) ∧ Below W.heap.size W w') := fun W hW h2 => place15_any _ q h.tk W (hv.next hW) (isTb_rise h2) (isTb_len h2)
  have HE : Hid (noteE q h = if isTb q = true ∧ hdOk h = true then (if hasH q h.tk = true then 71 else if q.length = 64 then 131 else 0) else 1) := rfl
  have HNL : Hid (noteL q h = if noteE q h = 0 then insH q h else []) := rfl
  have HLN : Hid (isTb q = true → q.length ≤ 64) := isTb_len
  obtain ⟨ad4, cap4, r4, s4⟩ := rowc_to elH (show RowC w (.slice ad q.length cap) q.length (hqC q) from hv) (plH_le q h.tk)
  obtain ⟨ad5, cap5, r5, s5⟩ := rowc_from elH (show RowC w (.slice ad q.length cap) q.length (hqC q) from hv) (hqC_len q) (plH_le q h.tk)
  rw [hqC_tk q _ (plH_le q h.tk)] at r4
  rw [hqC_dr q _ (plH_le q h.tk)] at r5
  have S4 := hid s4
  have S5 := hid s5
  have hpl := plH_le q h.tk
  have HPL := hid hpl
  have CAT : Hid (∀ W : World, ∀ (X1 : Obj), Bx w w.heap.size [.string h.tk, .string h.su, .string h.ou, .int .i64 h.at_] 31 W → q.length ≤ 64 → X1 = .cells #[.string h.tk, .string h.su, .string h.ou, .int .i64 h.at_] 31 → Calls Try.prog 28 #[.slice (some ⟨W.heap.size + 1, 0, none⟩) 3 3] ((W.alloc X1).alloc (.cells #[.slice ad4 (plH q h.tk) cap4, .slice (some ⟨W.heap.size, 0, none⟩) 1 1, .slice ad5 (q.length - plH q h.tk) cap5] 22)).drew fun e w' => ∃ ad6 cap6, e = .returned (.slice ad6 (q.length + 1) cap6) ∧ Hid (HdI w' (.slice ad6 (q.length + 1) cap6) (insH q h)) ∧ Hid (Bx w w.heap.size [.string h.tk, .string h.su, .string h.ou, .int .i64 h.at_] 31 w')) := fun W X1 hW h64 e1 => by
    subst e1
    have b1 : Below W.heap.size W (W.alloc (.cells #[.string h.tk, .string h.su, .string h.ou, .int .i64 h.at_] 31)) := below_al (Below.refl _ _) _
    have hm : RowC (W.alloc (.cells #[.string h.tk, .string h.su, .string h.ou, .int .i64 h.at_] 31)) (.slice (some ⟨W.heap.size, 0, none⟩) 1 1) 1 (hdC h) := RowC.own (own_made W [.string h.tk, .string h.su, .string h.ou, .int .i64 h.at_] 31 4 1 0 (Nat.zero_le _) rfl (by omega))
    have sr := note_srow (W.alloc (.cells #[.string h.tk, .string h.su, .string h.ou, .int .i64 h.at_] 31)) ad4 (plH q h.tk) cap4 ad5 (q.length - plH q h.tk) cap5 W.heap.size (hqC (q.take (plH q h.tk))) (hqC (q.drop (plH q h.tk))) (hdC h) ((r4.next hW.b).next b1) ((r5.next hW.b).next b1) hm (by rw [hqC_len, List.length_take, Nat.min_eq_left hpl]) (by rw [hqC_len, List.length_drop]) rfl (hqC_one' _) (hqC_one' _) (hdC_one _)
    have hsz1 : (W.alloc (.cells #[.string h.tk, .string h.su, .string h.ou, .int .i64 h.at_] 31)).heap.size = W.heap.size + 1 := by simp
    rw [hsz1] at sr
    have sr2 := sr.next (Below.refl _ _).drew
    have hN : srN [⟨.slice ad4 (plH q h.tk) cap4, plH q h.tk, hqC (q.take (plH q h.tk))⟩, ⟨.slice (some ⟨W.heap.size, 0, none⟩) 1 1, 1, hdC h⟩, ⟨.slice ad5 (q.length - plH q h.tk) cap5, q.length - plH q h.tk, hqC (q.drop (plH q h.tk))⟩] = q.length + 1 := by simp only [srN]; omega
    have hCc : srC [⟨.slice ad4 (plH q h.tk) cap4, plH q h.tk, hqC (q.take (plH q h.tk))⟩, ⟨.slice (some ⟨W.heap.size, 0, none⟩) 1 1, 1, hdC h⟩, ⟨.slice ad5 (q.length - plH q h.tk) cap5, q.length - plH q h.tk, hqC (q.drop (plH q h.tk))⟩] = hqC (insH q h) := by
      unfold insH
      rw [hqC_app, show h :: q.drop (plH q h.tk) = [h] ++ q.drop (plH q h.tk) from rfl, hqC_app, hqC_one]
      simp [srC]
    refine (concatH_any _ _ _ sr2 (by simp) (by rw [hN]; omega)).mono fun e w' ⟨ad6, cap6, he, hr, hb⟩ => ?_
    rw [hN] at he hr
    rw [hCc] at hr
    have hr' : HdI w' (.slice ad6 (q.length + 1) cap6) (insH q h) := by
      have := RowC.own hr
      unfold HdI
      rw [insH_len]
      exact this
    exact ⟨ad6, cap6, he, hr', (((hW.next b1).next (below_al (Below.refl _ _) _)).drew).next hb⟩
  have APT : Hid (∀ W u, Bx w w.heap.size [.string h.tk, .string h.su, .string h.ou, .int .i64 h.at_] 31 W → HdI W u (insH q h) → isTb q = true → hdOk h = true → Calls Try.prog 27 #[u] W fun e w' => ∃ ad7 cap7, e = .returned (.slice ad7 (insH q h).length cap7) ∧ Hid (OwnH w' w.heap.size 31 (.slice ad7 (insH q h).length cap7) (insH q h)) ∧ Hid (Bx w w.heap.size [.string h.tk, .string h.su, .string h.ou, .int .i64 h.at_] 31 w')) := fun W u hW hu ht hok => by
    refine (apart15_any u (insH q h) W hu (by rw [insH_len]; have := isTb_len ht; omega) (fun y hy => ?_)).mono fun e w' ⟨ad7, cap7, he, ho, hb⟩ => ⟨ad7, cap7, he, ownsRow_base ho hW.b.size, hW.next hb⟩
    rcases (insH_mem q h y).1 hy with e | e
    · rw [e]; exact hok
    · exact isTb_all ht y e
  have HCE : Hid (∀ W, Bx w w.heap.size [.string h.tk, .string h.su, .string h.ou, .int .i64 h.at_] 31 W → W.cell? ⟨w.heap.size, 0, none⟩ = some (.string h.tk) ∧ W.cell? ⟨w.heap.size, 1, none⟩ = some (.string h.su) ∧ W.cell? ⟨w.heap.size, 2, none⟩ = some (.string h.ou) ∧ W.cell? ⟨w.heap.size, 3, none⟩ = some (.int .i64 h.at_)) := fun W hW => ⟨hW.row.cellAt rfl, hW.row.cellAt rfl, hW.row.cellAt rfl, hW.row.cellAt rfl⟩
  clear hv r4 r5 s4 s5 hpl
  unfold hdV at *
  generalize noteE q h = NE at *
  generalize noteL q h = NL at *
  generalize insH q h = IH at *
  generalize isTb q = IS at *
  generalize hdOk h = OK at *
  generalize hasH q h.tk = HB at *
  generalize plH q h.tk = PN at *
  obtain ⟨tk, su, ou, at_⟩ := h
  simp only at *
  go_enter Try.func12, Try.ntmps12
  go_wp2_with fail
  refine IT.out.mono ?_
  rintro e w1 ⟨rfl, b1⟩
  have B1 := hid (BM.out.next b1)
  clear IT b1 BM
  cases IS
  · have hne : NE = 1 := by rw [HE.out]; simp
    subst hne
    have hnl : NL = [] := by rw [HNL.out]; simp
    subst hnl
    clear MB PL HE HNL HLN S4 S5 HPL CAT APT HCE
    go_wp2
    go_ret2
    exact giveH_none B1.out.b
  obtain ⟨y0, y1, y2, y3⟩ := HCE.out _ B1.out
  have HL := hid (HLN.out rfl)
  have PL1 := hid (fun W hW => PL.out W hW rfl)
  have AT1 := hid (fun W u hW hu => APT.out W u hW hu rfl)
  clear HLN PL APT
  go_wp2_with fail
  refine (MB.out _).mono ?_
  rintro e w2 ⟨rfl, b2⟩
  have B2 := hid (B1.out.next b2)
  clear MB b2 B1 y0 y1 y2 y3
  cases OK
  · have hne : NE = 1 := by rw [HE.out]; simp
    subst hne
    have hnl : NL = [] := by rw [HNL.out]; simp
    subst hnl
    clear PL1 HE HNL S4 S5 HPL CAT AT1 HCE HL
    go_wp2
    go_ret2
    exact giveH_none B2.out.b
  have HE2 : Hid (NE = (if HB = true then 71 else if q.length = 64 then 131 else 0)) := by show _ = _; rw [HE.out]; simp
  have AT := hid (fun W u hW hu => AT1.out W u hW hu rfl)
  clear HE AT1
  have P2 := hid (PL1.out w2 B2.out.b)
  obtain ⟨y0, y1, y2, y3⟩ := HCE.out _ B2.out
  clear PL1
  go_wp2_with fail
  refine P2.out.mono ?_
  rintro e w3 ⟨rfl, b3⟩
  have B3 := hid (B2.out.next b3)
  clear P2 b3 B2 y0 y1 y2 y3
  cases HB
  case true =>
    have hne : NE = 71 := by rw [HE2.out]; simp
    subst hne
    have hnl : NL = [] := by rw [HNL.out]; simp
    subst hnl
    clear HNL S4 S5 HPL CAT AT HCE HL HE2
    go_wp2
    go_ret2
    exact giveH_none B3.out.b
  by_cases h64 : q.length = 64
  · have hne : NE = 131 := by rw [HE2.out]; simp [h64]
    subst hne
    have hnl : NL = [] := by rw [HNL.out]; simp
    subst hnl
    have g1 : ((q.length : Int) == 64) = true := by rw [h64]; rfl
    have g2 : (q.length == 64) = true := by rw [h64]; rfl
    clear HNL S4 S5 HPL CAT AT HCE HL HE2 h64
    go_wp2
    go_ret2
    exact giveH_none B3.out.b
  · have hne : NE = 0 := by rw [HE2.out]; simp [h64]
    subst hne
    have hnl : NL = IH := by rw [HNL.out]; simp
    subst hnl
    have g1 : ((q.length : Int) == 64) = false := by rw [beq_eq_false_iff_ne]; omega
    have g2 : (q.length == 64) = false := beq_eq_false_iff_ne.2 h64
    have s4 := S4.out
    have s5 := S5.out
    obtain ⟨y0, y1, y2, y3⟩ := HCE.out _ B3.out
    have CT := hid (CAT.out w3 _ B3.out HL.out rfl)
    clear HNL S4 S5 CAT HE2 h64 HPL HL
    go_wp2
    refine wp_region_held_drew (S := (fun w' => w'.cell? ⟨w.heap.size, 0, none⟩ = some (.string tk) ∧ w'.cell? ⟨w.heap.size, 1, none⟩ = some (.string su) ∧ w'.cell? ⟨w.heap.size, 2, none⟩ = some (.string ou) ∧ w'.cell? ⟨w.heap.size, 3, none⟩ = some (.int .i64 at_))) (by kernel_rfl) ⟨y0, y1, y2, y3⟩ (fun hHeld => ?_)
    refine wpAnyH_take (i := 0) (v := ?vv1) rfl (by kernel_rfl) (by kernel_rfl) (by kernel_rfl) (fun _ _ _ h => h) (Or.inl ⟨by rfl, ?hy1⟩) (by assumption) ?rest1
    case hy1 => (intro w hSw; (try dsimp only at hSw); go_simp; first | done | with_reducible rfl)
    try simp only [Act.put, List.getElem_toArray, List.getElem_cons_succ, List.getElem_cons_zero, List.setIfInBounds_toArray, List.set_cons_zero, List.set_cons_succ]
    refine wpAnyH_take (i := 1) (v := ?vv2) rfl (by kernel_rfl) (by kernel_rfl) (by kernel_rfl) (fun _ _ _ h => h) (Or.inl ⟨by rfl, ?hy2⟩) (by assumption) ?rest2
    case hy2 => (intro w hSw; (try dsimp only at hSw); go_simp; first | done | with_reducible rfl)
    try simp only [Act.put, List.getElem_toArray, List.getElem_cons_succ, List.getElem_cons_zero, List.setIfInBounds_toArray, List.set_cons_zero, List.set_cons_succ]
    refine wpAnyH_take (i := 2) (v := ?vv3) rfl (by kernel_rfl) (by kernel_rfl) (by kernel_rfl) (fun _ _ _ h => h) (Or.inl ⟨by rfl, ?hy3⟩) (by assumption) ?rest3
    case hy3 => (intro w hSw; (try dsimp only at hSw); go_simp; first | done | with_reducible rfl)
    try simp only [Act.put, List.getElem_toArray, List.getElem_cons_succ, List.getElem_cons_zero, List.setIfInBounds_toArray, List.set_cons_zero, List.set_cons_succ]
    refine wpAnyH_take (i := 3) (v := ?vv4) rfl (by kernel_rfl) (by kernel_rfl) (by kernel_rfl) (fun _ _ _ h => h) (Or.inl ⟨by rfl, ?hy4⟩) (by assumption) ?rest4
    case hy4 => (intro w hSw; (try dsimp only at hSw); go_simp; first | done | with_reducible rfl)
    try simp only [Act.put, List.getElem_toArray, List.getElem_cons_succ, List.getElem_cons_zero, List.setIfInBounds_toArray, List.set_cons_zero, List.set_cons_succ]
    refine wpAnyH_take (i := 5) (v := ?vv5) rfl (by kernel_rfl) (by kernel_rfl) (by kernel_rfl) (fun _ _ _ h => h) (Or.inl ⟨by rfl, ?hy5⟩) (by assumption) ?rest5
    case hy5 => (intro w hSw; (try dsimp only at hSw); go_simp; first | done | with_reducible rfl)
    try simp only [Act.put, List.getElem_toArray, List.getElem_cons_succ, List.getElem_cons_zero, List.setIfInBounds_toArray, List.set_cons_zero, List.set_cons_succ]
    refine wpAnyH_take (i := 6) (v := ?vv6) rfl (by kernel_rfl) (by kernel_rfl) (by kernel_rfl) (fun _ _ _ h => h) (Or.inl ⟨by rfl, ?hy6⟩) (by assumption) ?rest6
    case hy6 => (intro w hSw; (try dsimp only at hSw); go_simp; first | done | with_reducible rfl)
    try simp only [Act.put, List.getElem_toArray, List.getElem_cons_succ, List.getElem_cons_zero, List.setIfInBounds_toArray, List.set_cons_zero, List.set_cons_succ]
    refine wpAnyH_take (i := 7) (v := ?vv7) rfl (by kernel_rfl) (by kernel_rfl) (by kernel_rfl) (fun _ _ _ h => h) (Or.inl ⟨by rfl, ?hy7⟩) (by assumption) ?rest7
    case hy7 => (intro w hSw; (try dsimp only at hSw); go_simp; first | done | with_reducible rfl)
    try simp only [Act.put, List.getElem_toArray, List.getElem_cons_succ, List.getElem_cons_zero, List.setIfInBounds_toArray, List.set_cons_zero, List.set_cons_succ]
    refine wpAnyH_ready (rs := [4]) (by kernel_rfl) (by simp) ?_
    refine AllReadyH.cons rfl (fun K hK => ?_) AllReadyH.nil
    go_simp
    refine hK.out _ _ (HCE.out _ (B3.out.al _).drew) (fun hHeld => ?_)
    clear hK K
    try simp only [Act.put, List.getElem_toArray, List.getElem_cons_succ, List.getElem_cons_zero, List.setIfInBounds_toArray, List.set_cons_zero, List.set_cons_succ]
    refine wpAnyH_ready (rs := [8]) (by kernel_rfl) (by simp) ?_
    refine AllReadyH.cons rfl (fun K hK => ?_) AllReadyH.nil
    go_simp
    refine hK.out _ _ (HCE.out _ ((B3.out.al _).al _).drew) (fun hHeld => ?_)
    clear hK K
    try simp only [Act.put, List.getElem_toArray, List.getElem_cons_succ, List.getElem_cons_zero, List.setIfInBounds_toArray, List.set_cons_zero, List.set_cons_succ]
    refine wpAnyH_ready (rs := [9]) (by kernel_rfl) (by simp) ?_
    refine AllReadyH.cons rfl (fun K hK => ?_) AllReadyH.nil
    go_simp
    refine CT.out.mono ?_
    rintro e w4 ⟨ad6, cap6, rfl, R4, B4⟩
    have ZC4 := HCE.out _ B4.out
    go_wp2_with fail
    refine hK.out _ _ ZC4 (fun hHeld => ?_)
    clear hK K
    try simp only [Act.put, List.getElem_toArray, List.getElem_cons_succ, List.getElem_cons_zero, List.setIfInBounds_toArray, List.set_cons_zero, List.set_cons_succ]
    refine wpAnyH_ready (rs := [10]) (by kernel_rfl) (by simp) ?_
    refine AllReadyH.cons rfl (fun K hK => ?_) AllReadyH.nil
    go_simp
    refine (AT.out _ _ B4.out R4.out).mono ?_
    rintro e w5 ⟨ad7, cap7, rfl, R5, B5⟩
    have ZC5 := HCE.out _ B5.out
    go_wp2_with fail
    refine hK.out _ _ ZC5 (fun hHeld => ?_)
    clear hK K
    try simp only [Act.put, List.getElem_toArray, List.getElem_cons_succ, List.getElem_cons_zero, List.setIfInBounds_toArray, List.set_cons_zero, List.set_cons_succ]
    refine wpAnyH_take (i := 11) (v := ?vv8) rfl (by kernel_rfl) (by kernel_rfl) (by kernel_rfl) (fun _ _ _ h => h) (Or.inl ⟨by rfl, ?hy8⟩) (by assumption) ?rest8
    case hy8 => (intro w hSw; (try dsimp only at hSw); go_simp; first | done | with_reducible rfl)
    try simp only [Act.put, List.getElem_toArray, List.getElem_cons_succ, List.getElem_cons_zero, List.setIfInBounds_toArray, List.set_cons_zero, List.set_cons_succ]
    refine wpAnyH_take (i := 12) (v := ?vv9) rfl (by kernel_rfl) (by kernel_rfl) (by kernel_rfl) (fun _ _ _ h => h) (Or.inl ⟨by rfl, ?hy9⟩) (by assumption) ?rest9
    case hy9 => (intro w hSw; (try dsimp only at hSw); go_simp; first | done | with_reducible rfl)
    try simp only [Act.put, List.getElem_toArray, List.getElem_cons_succ, List.getElem_cons_zero, List.setIfInBounds_toArray, List.set_cons_zero, List.set_cons_succ]
    refine wpAnyH_done (by kernel_rfl) ?_ _
    clear hHeld ZC4 ZC5 s4 s5 CT AT HCE y0 y1 y2 y3
    go_wp2
    go_ret2
    exact ⟨ad7, cap7, rfl, R5.out, B5.out.b⟩
end Go.Proofs.Ytojiahdbgdgdcaa
namespace Go.Proofs.Ytojiahdbgdgdcaa
open Go.RowKit Go.Maps
set_option linter.unusedVariables false
set_option linter.unusedSimpArgs false

/-- those that stay -/
def stayH (u : Int) (l : List Hd) : List Hd := l.filter (fun h => decide (u < h.at_))
def expL (l : List Hd) (u : Int) : List Hd := if isTb l = true then stayH u l else []
def expN (l : List Hd) (u : Int) : Int := if isTb l = true then (l.length : Int) - ((stayH u l).length : Int) else 0
theorem stayH_take (u : Int) (l : List Hd) (k : Nat) (hk : k < l.length) : stayH u (l.take (k + 1)) = stayH u (l.take k) ++ (if u < l[k].at_ then [l[k]] else []) := by
  unfold stayH
  rw [List.take_succ_eq_append_getElem hk, List.filter_append]
  by_cases h : u < l[k].at_
  · rw [if_pos h, List.filter_cons_of_pos (by simpa using h), List.filter_nil]
  · rw [if_neg h, List.filter_cons_of_neg (by simpa using h), List.filter_nil]
theorem stayH_out (u : Int) (l : List Hd) (k : Nat) (hk : k < l.length) (h : decide (l[k].at_ ≤ u) = true) : stayH u (l.take (k + 1)) = stayH u (l.take k) := by
  have h2 : ¬ u < l[k].at_ := by have := of_decide_eq_true h; omega
  rw [stayH_take u l k hk, if_neg h2, List.append_nil]
theorem stayH_in (u : Int) (l : List Hd) (k : Nat) (hk : k < l.length) (h : decide (l[k].at_ ≤ u) = false) : stayH u (l.take (k + 1)) = stayH u (l.take k) ++ [l[k]] := by
  have h2 : u < l[k].at_ := by have := of_decide_eq_false h; omega
  rw [stayH_take u l k hk, if_pos h2]
theorem stayH_len (u : Int) (l : List Hd) : (stayH u l).length ≤ l.length := List.length_filter_le ..
theorem stayH_mem {u : Int} {l : List Hd} {h : Hd} (e : h ∈ stayH u l) : h ∈ l := (List.mem_filter.1 e).1
set_option maxRecDepth 100000 in
set_option maxHeartbeats 1000000 in
theorem exp1_any (h : Hd) (g : Nat) (u : Int) (w : World) (hg : RowIs w g [.int .i64 u] 3) : Calls Try.prog 31 #[hdV h, .pointer (some ⟨g, 0, none⟩)] w fun e w' => e = .returned (.bool (decide (h.at_ ≤ u))) ∧ Below w.heap.size w w' := by
  have HB : Hid (∀ X, Below w.heap.size w (w.alloc X)) := fun X => below_al (Below.refl _ _) _
  have hlt := hg.lt
  have c0 := (row_old hg (.cells #[.string h.tk, .string h.su, .string h.ou, .int .i64 h.at_] 31)).cellAt (o := 0) rfl
  have SR := srow w [.string h.tk, .string h.su, .string h.ou, .int .i64 h.at_] 31
  have y3 := SR.cellAt (o := 3) rfl
  clear hlt SR hg
  unfold hdV
  obtain ⟨tk, su, ou, at_⟩ := h
  simp only at *
  go_enter Try.func31, Try.ntmps31
  go_wp2
  go_ret
  exact ⟨rfl, HB.out _⟩
set_option maxRecDepth 100000 in
set_option maxHeartbeats 2000000 in
theorem without_any (v : Value) (q : List Hd) (g : Nat) (u : Int) (w : World) (hv : HdI w v q) (hl : q.length ≤ 1048576) (hg : RowIs w g [.int .i64 u] 3) : Calls Try.prog 30 #[v, .func (.func 31) #[] #[.pointer (some ⟨g, 0, none⟩)]] w fun e w' => ∃ ad cap, e = .returned (.slice ad (stayH u q).length cap) ∧ OwnH w' w.heap.size 31 (.slice ad (stayH u q).length cap) (stayH u q) ∧ Below w.heap.size w w' := by
  obtain ⟨ad, cap, rfl, hc⟩ := hv.form
  have HC := hid hc
  have HL := hid hl
  have HZ : Hid (q.take q.length = q) := List.take_length
  have HSL : Hid (∀ k, (stayH u (q.take k)).length ≤ 1048576) := fun k => by have := stayH_len u (q.take k); rw [List.length_take] at this; omega
  have E1 : Hid (∀ (x : Hd) W, Below w.heap.size w W → Calls Try.prog 31 #[hdV x, .pointer (some ⟨g, 0, none⟩)] W fun e w' => e = .returned (.bool (decide (x.at_ ≤ u))) ∧ Below W.heap.size W w') := fun x W hW => exp1_any x g u W (hg.keep (hW.keep (fun _ => False)) (fun h => h))
  have HR0 : Hid (w.ownsRow w.heap.size 31 4 (.slice none 0 0) (stayH u (q.take 0)).length (hqC (stayH u (q.take 0)))) := ⟨rfl, .inl ⟨rfl, rfl⟩⟩
  have hcf := enters_of Try.func31 (by kernel_rfl) rfl
  clear hc hv hl hg
  go_enter Try.func30, Try.ntmps30
  go_wp2
  go_loopw [5, 10] (fun o i wr => ∃ (k : Nat) (ad1 : Option Addr) (cp1 : Nat), k ≤ q.length ∧ o = .slice ad1 (stayH u (q.take k)).length cp1 ∧ i = .int .i64 (k : Int) ∧ Hid (wr.ownsRow w.heap.size 31 4 (.slice ad1 (stayH u (q.take k)).length cp1) (stayH u (q.take k)).length (hqC (stayH u (q.take k)))) ∧ Hid (Below w.heap.size w wr)) (fun _ i _ => q.length - (intOf i).toNat)
  case atStart => exact ⟨0, none, 0, Nat.zero_le _, rfl, rfl, HR0, Below.refl _ _⟩
  case round =>
    clear HR0
    obtain ⟨k, ad1, cp1, hk, rfl, rfl, HR, HB⟩ := hrel
    by_cases hlt : k < q.length
    · have hk1 : (k : Int) < (q.length : Int) := by omega
      have hk0 : (0 : Int) ≤ (k : Int) := by omega
      obtain ⟨b, off, rfl, hb, c0, c1, c2, c3⟩ := HC.out k hlt
      have d0 := (HB.out.cell (p := ⟨b, off + k * 4, none⟩) hb).trans c0
      have d1 := (HB.out.cell (p := ⟨b, off + k * 4 + 1, none⟩) hb).trans c1
      have d2 := (HB.out.cell (p := ⟨b, off + k * 4 + 2, none⟩) hb).trans c2
      have d3 := (HB.out.cell (p := ⟨b, off + k * 4 + 3, none⟩) hb).trans c3
      have hwk : wrap64 ((k : Int) + 1) = ((k + 1 : Nat) : Int) := by have := HL.out; rw [IntWalk.wrap64_in _ (by omega)]; omega
      have HLT := hid hlt
      have HOUT := hid (stayH_out u q k hlt)
      have HIN := hid (stayH_in u q k hlt)
      have HS1 := hid (HSL.out (k + 1))
      have BM := hid (Bx.made (Below.refl wr.heap.size wr) [.string q[k].tk, .string q[k].su, .string q[k].ou, .int .i64 q[k].at_] 31)
      have EX := hid (E1.out q[k] _ (below_on HB.out BM.out.b))
      have HO1 := hid (hdC_one q[k])
      have HX2 : Hid ((hdC q[k]).length = 1 * 4) := rfl
      have HXS : Hid (hdC q[k] = [.string q[k].tk, .string q[k].su, .string q[k].ou, .int .i64 q[k].at_]) := rfl
      have HCE : Hid (∀ W, Bx wr wr.heap.size [.string q[k].tk, .string q[k].su, .string q[k].ou, .int .i64 q[k].at_] 31 W → W.cell? ⟨wr.heap.size, 0, none⟩ = some (.string q[k].tk) ∧ W.cell? ⟨wr.heap.size, 1, none⟩ = some (.string q[k].su) ∧ W.cell? ⟨wr.heap.size, 2, none⟩ = some (.string q[k].ou) ∧ W.cell? ⟨wr.heap.size, 3, none⟩ = some (.int .i64 q[k].at_)) := fun W h => ⟨h.row.cellAt rfl, h.row.cellAt rfl, h.row.cellAt rfl, h.row.cellAt rfl⟩
      have HGO : Hid (∀ W, Below wr.heap.size wr W → decide (q[k].at_ ≤ u) = true → Hid (W.ownsRow w.heap.size 31 4 (.slice ad1 (stayH u (q.take k)).length cp1) (stayH u (q.take (k + 1))).length (hqC (stayH u (q.take (k + 1))))) ∧ (stayH u (q.take (k + 1))).length = (stayH u (q.take k)).length) := fun W hW h => by
        have e : stayH u (q.take (k + 1)) = stayH u (q.take k) := HOUT.out h
        rw [e]
        exact ⟨(hW.keep (fun _ => False)).ownsRow HR.out (fun _ _ h => h), rfl⟩
      have HST : Hid (decide (q[k].at_ ≤ u) = false → (stayH u (q.take (k + 1))).length = (stayH u (q.take k)).length + 1 ∧ hqC (stayH u (q.take (k + 1))) = hqC (stayH u (q.take k)) ++ hdC q[k]) := fun h => by
        have e : stayH u (q.take (k + 1)) = stayH u (q.take k) ++ [q[k]] := HIN.out h
        rw [e, hqC_app, hqC_one]
        exact ⟨by simp, rfl⟩
      clear HC c0 c1 c2 c3 HL hb HZ HSL E1 HOUT HIN
      unfold hdV at EX
      generalize q[k] = y at *
      obtain ⟨tk, su, ou, at_⟩ := y
      simp only at *
      generalize hdC _ = XS at *
      clear hlt hk
      obtain ⟨y0, y1, y2, y3⟩ := HCE.out _ BM.out
      go_wp2_with fail
      refine EX.out.mono ?_
      rintro e w1 ⟨rfl, b1⟩
      have B1 := hid (BM.out.next b1)
      clear EX b1 BM y0 y1 y2 y3 d0 d1 d2 d3
      cases hle : decide (at_ ≤ u)
      · obtain ⟨e1, e2⟩ := HST.out hle
        obtain ⟨y0, y1, y2, y3⟩ := HCE.out _ B1.out
        have HN1 := hid e1
        have HGA : Hid ((w1.alloc (.cells #[.string tk, .string su, .string ou, .int .i64 at_] 31)).ownsRow w.heap.size 31 4 (.slice ad1 (stayH u (q.take k)).length cp1) (stayH u (q.take k)).length (hqC (stayH u (q.take k)))) := ((below_al B1.out.b _).keep (fun _ => False)).ownsRow HR.out (fun _ _ h => h)
        have HSZ : Hid (w.heap.size ≤ (w1.alloc (.cells #[.string tk, .string su, .string ou, .int .i64 at_] 31)).heap.size) := Nat.le_trans HB.out.size (below_al B1.out.b _).size
        have HGX : Hid (GSrc (w1.alloc (.cells #[.string tk, .string su, .string ou, .int .i64 at_] 31)) (.slice (some ⟨w1.heap.size, 0, none⟩) 1 1) 1 XS) := by
          rw [HXS.out]; exact gsrc_block (heap_alloc_new _ _)
        have HB1 : Hid ((stayH u (q.take k)).length + 1 ≤ 4611686018427387904) := by have := HS1.out; show _ ≤ _; omega
        have HB2 : Hid (((stayH u (q.take k)).length + 1) * 56 ≤ 140737488355328) := by have := HS1.out; show _ ≤ _; omega
        have FIN : Hid (∀ ad' cap' w', w'.ownsRow w.heap.size 31 4 (.slice ad' ((stayH u (q.take k)).length + 1) cap') ((stayH u (q.take k)).length + 1) (hqC (stayH u (q.take k)) ++ XS) → Keep (fun j => (Value.slice ad1 (stayH u (q.take k)).length cp1).ownBlock = some j) (w1.alloc (.cells #[.string tk, .string su, .string ou, .int .i64 at_] 31)) w' → Hid (w'.ownsRow w.heap.size 31 4 (.slice ad' (stayH u (q.take (k + 1))).length cap') (stayH u (q.take (k + 1))).length (hqC (stayH u (q.take (k + 1))))) ∧ Hid (Below w.heap.size w w')) := fun ad' cap' w' hr hk' => by
          refine ⟨?_, (below_on HB.out (below_al B1.out.b _)).trans (keep_below hk' (fun j hj e => by have := ownsRow_ge HR.out e; omega) HSZ.out)⟩
          show World.ownsRow _ _ _ _ _ _ _
          rw [e1, e2]; exact hr
        clear HR HB HGO HST HXS HCE e1 e2 HS1 B1
        generalize (stayH u (q.take k)).length = n0 at *
        generalize hqC (stayH u (q.take k)) = PA at *
        go_wp2_with (at_builtin; refine wpl_gappL rfl _ _ elH rfl w.heap.size (.slice ad1 n0 cp1) (.slice (some ⟨w1.heap.size, 0, none⟩) 1 1) PA XS n0 1 (n0 + 1) rfl rfl rfl HGA.out HSZ.out HGX.out HX2.out HO1.out HB1.out HB2.out ?_; intro ad' cap' w' hr' hk')
        obtain ⟨F1, F2⟩ := FIN.out _ _ _ hr' hk'
        clear hr' hk' FIN HGA HGX HSZ y0 y1 y2 y3
        go_wp2
        exact ⟨⟨k + 1, _, _, HLT.out, by rw [HN1.out], by first | rw [hwk] | rfl | simp, F1, F2⟩, by (try rw [hwk]); have := HLT.out; simp [intOf]; omega⟩
      · obtain ⟨R2, e1⟩ := HGO.out _ B1.out.b hle
        have HN1 := hid e1
        have B2 := hid (below_on HB.out B1.out.b)
        clear HR HB HGO HST HXS HCE e1 HS1 B1 HO1 HX2
        go_wp2
        refine ⟨⟨k + 1, ad1, cp1, HLT.out, by rw [HN1.out], by first | rw [hwk] | rfl | simp, ?_, B2⟩, by (try rw [hwk]); have := HLT.out; simp [intOf]; omega⟩
        rw [← HN1.out] at R2
        exact R2
    · have hke : k = q.length := by omega
      have hd : decide ((k : Int) < (q.length : Int)) = false := decide_eq_false (by omega)
      have hd2 : decide (k < q.length) = false := decide_eq_false hlt
      have hsr : q.take k = q := by rw [hke, HZ.out]
      rw [hsr] at HR ⊢
      clear HC HZ HL hke hlt hk HSL E1 hsr
      go_wp2
      go_ret
      exact ⟨ad1, cp1, rfl, HR.out, HB.out⟩
set_option maxRecDepth 100000 in
set_option maxHeartbeats 2000000 in
theorem expire15_any (v : Value) (q : List Hd) (u : Int) (w : World) (hv : HdI w v q) : Calls Try.prog 14 #[v, .int .i64 u] w (GiveH w 31 (expL q u) (expN q u)) := by
  obtain ⟨ad, cap, rfl, hc⟩ := hv.form
  clear hc
  have BM := hid (Bx.made (Below.refl w.heap.size w) [.int .i64 u] 3)
  have IT := hid (isTable_any _ q _ (hv.next BM.out.b))
  have WO : Hid (∀ W, Bx w w.heap.size [.int .i64 u] 3 W → isTb q = true → Calls Try.prog 30 #[.slice ad q.length cap, .func (.func 31) #[] #[.pointer (some ⟨w.heap.size, 0, none⟩)]] W fun e w' => ∃ ad cap, e = .returned (.slice ad (stayH u q).length cap) ∧ Hid (HdI w' (.slice ad (stayH u q).length cap) (stayH u q)) ∧ Hid (Bx w w.heap.size [.int .i64 u] 3 w')) := fun W hW h => (without_any _ q _ u W (hv.next hW.b) (by have := isTb_len h; omega) hW.row).mono fun e w' ⟨ad, cap, he, ho, hb⟩ => ⟨ad, cap, he, ho.hd, hW.next hb⟩
  have AP : Hid (∀ W x, Bx w w.heap.size [.int .i64 u] 3 W → HdI W x (stayH u q) → isTb q = true → Calls Try.prog 27 #[x] W fun e w' => ∃ ad cap, e = .returned (.slice ad (stayH u q).length cap) ∧ Hid (OwnH w' w.heap.size 31 (.slice ad (stayH u q).length cap) (stayH u q)) ∧ Hid (Below w.heap.size w w')) := fun W x hW hx h => (apart15_any x _ W hx (by have := stayH_len u q; have := isTb_len h; omega) (fun y hy => isTb_all h y (stayH_mem hy))).mono fun e w' ⟨ad, cap, he, ho, hb⟩ => ⟨ad, cap, he, ownsRow_base ho hW.b.size, below_on hW.b hb⟩
  have HEL : Hid (expL q u = if isTb q = true then stayH u q else []) := rfl
  have HEN : Hid (expN q u = if isTb q = true then (q.length : Int) - ((stayH u q).length : Int) else 0) := rfl
  have HLN : Hid (isTb q = true → q.length ≤ 64) := isTb_len
  have HSL := hid (stayH_len u q)
  generalize expL q u = EL at *
  generalize expN q u = EN at *
  generalize isTb q = IS at *
  generalize stayH u q = SH at *
  clear hv
  go_enter Try.func14, Try.ntmps14
  go_wp2_with fail
  refine IT.out.mono ?_
  rintro e w1 ⟨rfl, b1⟩
  have B1 := hid (BM.out.next b1)
  clear IT b1 BM
  cases IS
  · have h1 : EL = [] := HEL.out
    have h2 : EN = 0 := HEN.out
    subst h1 h2
    clear WO AP HEL HEN HLN HSL
    go_wp2
    go_ret2
    exact giveH_none B1.out.b
  have h1 : EL = SH := HEL.out
  have h2 : EN = (q.length : Int) - (SH.length : Int) := HEN.out
  subst h1 h2
  have HL := hid (HLN.out rfl)
  have W1 := hid (WO.out w1 B1.out rfl)
  have A1 := hid (fun W x hW hx => AP.out W x hW hx rfl)
  clear HEL HEN HLN WO AP
  go_wp2_with fail
  refine W1.out.mono ?_
  rintro e w2 ⟨ad2, cap2, rfl, R2, B2⟩
  clear W1 B1
  have A2 := hid (A1.out w2 _ B2.out R2.out)
  have hw : wrap64 ((q.length : Int) - (EL.length : Int)) = (q.length : Int) - (EL.length : Int) := by have := HSL.out; have := HL.out; rw [IntWalk.wrap64_in _ (by omega)]
  clear A1 R2
  go_wp2_with fail
  refine A2.out.mono ?_
  rintro e w3 ⟨ad3, cap3, rfl, R3, B3⟩
  clear A2 B2 HSL HL
  go_wp2
  go_ret2
  exact ⟨ad3, cap3, by rw [hw]; rfl, R3.out, B3.out⟩
end Go.Proofs.Ytojiahdbgdgdcaa
