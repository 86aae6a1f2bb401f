/- Which lists are chains: both sides. -/
import Derived.Test.YtbiapepalkdkdaaBxM
import Derived.Test.YtbiapepalkdkdaaCvD
namespace Go.Proofs.Ytbiapepalkdkdaa
open Go.RowKit Go.Maps
set_option linter.unusedVariables false
set_option linter.unusedSimpArgs false

theorem ch_bad {q : List (Value × Vn)} {R : Bool} {k : Nat} (hk : k < q.length) (hR : R = chF (prevI (vqL q) k) ((vqL q).drop k)) (h : vnOk q[k].2 = false ∨ vnBelow (prevI (vqL q) k) q[k].2.id = false) : R = false := by
  rw [hR, chF_at (vqL q) k (by rw [vqL_len]; exact hk), vqL_get q k hk]
  rcases h with h | h
  · rw [h]; rfl
  · rw [h]; simp
theorem ch_go {q : List (Value × Vn)} {R : Bool} {k : Nat} (hk : k < q.length) (hR : R = chF (prevI (vqL q) k) ((vqL q).drop k)) (h1 : vnOk q[k].2 = true) (h2 : vnBelow (prevI (vqL q) k) q[k].2.id = true) : R = chF (prevI (vqL q) (k + 1)) ((vqL q).drop (k + 1)) := by
  rw [hR, chF_at (vqL q) k (by rw [vqL_len]; exact hk), vqL_get q k hk, h1, h2]; rfl
theorem prev_at {q : List (Value × Vn)} {m : Nat} (hm : m < q.length) : prevI (vqL q) (m + 1) = some q[m].2.id := by
  rw [prevI_succ (vqL q) m (by rw [vqL_len]; exact hm), vqL_get q m hm]
theorem vnE_cases (x : Vn) : (vnOk x = true ∧ vnE x = 0) ∨ (vnOk x = false ∧ vnE x = 1) := by
  unfold vnE
  cases h : vnOk x
  · exact .inr ⟨rfl, rfl⟩
  · exact .inl ⟨rfl, rfl⟩
set_option maxRecDepth 100000 in
set_option maxHeartbeats 2000000 in
theorem isChain_any (v : Value) (q : List (Value × Vn)) (w : World) (hv : VnI w v q) : Calls Try.prog 39 #[v] w fun e w' => e = .returned (.bool (isCh (vqL q))) ∧ Below w.heap.size w w' := by
  obtain ⟨ad, cap, rfl, hc⟩ := hv.form
  by_cases h5 : 32 < q.length
  · have h5i : decide (32 < (q.length : Int)) = true := decide_eq_true (by omega)
    have h5j : decide (32 < q.length) = true := decide_eq_true h5
    have hr : isCh (vqL q) = false := by unfold isCh; rw [vqL_len, decide_eq_false (by omega)]; rfl
    rw [hr]
    clear hc hv h5 hr
    go_enter Try.func39, Try.ntmps39
    go_wp2
    go_ret
    exact ⟨rfl, Below.refl _ _⟩
  have h5i : decide (32 < (q.length : Int)) = false := decide_eq_false (by omega)
  have h5j : decide (32 < q.length) = false := decide_eq_false h5
  have HL : Hid (q.length ≤ 32) := by show _ ≤ _; omega
  have HR0 : Hid (isCh (vqL q) = chF (prevI (vqL q) 0) ((vqL q).drop 0)) := by
    show _ = _
    unfold isCh
    rw [vqL_len, decide_eq_true HL.out]
    simp [prevI]
  have HC := hid hc
  have CK0 := hid (fun pv x W h => vcheck_any pv x W h)
  generalize isCh (vqL q) = R at *
  clear hc hv h5
  go_enter Try.func39, Try.ntmps39
  go_wp2
  go_loopw [10] (fun i wr => ∃ (k : Nat), k ≤ q.length ∧ i = .int .i64 (k : Int) ∧ Hid (Below w.heap.size w wr) ∧ Hid (R = chF (prevI (vqL q) k) ((vqL q).drop k))) (fun i _ => q.length - (intOf i).toNat)
  case atStart => exact ⟨0, Nat.zero_le _, rfl, Below.refl _ _, HR0⟩
  case round =>
    clear h5i h5j HR0
    obtain ⟨k, hk, rfl, HB, HR⟩ := hrel
    by_cases hlt : k < q.length
    · have hk1 : (k : Int) < (q.length : Int) := by omega
      have hk0 : (0 : Int) ≤ (k : Int) := by omega
      have hwk : wrap64 ((k : Int) + 1) = ((k + 1 : Nat) : Int) := by have := HL.out; rw [IntWalk.wrap64_in _ (by omega)]; omega
      obtain ⟨b, off, rfl, hb, c0, c1, c2, c3, c4, hp⟩ := HC.out k hlt
      have d0 := (HB.out.cell (p := ⟨b, off + k * 5, none⟩) hb).trans c0
      have d1 := (HB.out.cell (p := ⟨b, off + k * 5 + 1, none⟩) hb).trans c1
      have d2 := (HB.out.cell (p := ⟨b, off + k * 5 + 2, none⟩) hb).trans c2
      have d3 := (HB.out.cell (p := ⟨b, off + k * 5 + 3, none⟩) hb).trans c3
      have d4 := (HB.out.cell (p := ⟨b, off + k * 5 + 4, none⟩) hb).trans c4
      have HBAD := hid (ch_bad hlt HR.out)
      have HGO := hid (ch_go hlt HR.out)
      have HE := hid (vnE_cases q[k].2)
      have HPV : Hid (k = 0 ∧ prevI (vqL q) k = none ∨ ∃ (m : Nat) (pi : Int), k = m + 1 ∧ prevI (vqL q) k = some pi ∧ ∀ W, Below w.heap.size w W → W.cell? ⟨b, off + m * 5, none⟩ = some (.int .i64 pi)) := by
        cases k with
        | zero => exact .inl ⟨rfl, rfl⟩
        | succ m =>
          obtain ⟨b', off', e, hb', c0', _⟩ := HC.out m (by omega)
          injection e with e
          injection e with e1 e2
          subst e1 e2
          exact .inr ⟨m, _, rfl, prev_at (by omega), fun W hW => (hW.cell (p := ⟨b, off + m * 5, none⟩) hb').trans c0'⟩
      have HX : Hid (∀ W, Bx w wr.heap.size [.int .i64 q[k].2.id, .bool q[k].2.ma, .int .i64 q[k].2.sz, .string q[k].2.sum, q[k].1] 24 W → Calls Try.prog 13 #[.agg #[.int .i64 q[k].2.id, .bool q[k].2.ma, .int .i64 q[k].2.sz, .string q[k].2.sum, q[k].1]] W fun e w' => e = .returned (.int .i64 (vnE q[k].2)) ∧ (w'.cell? ⟨wr.heap.size, 0, none⟩ = some (.int .i64 q[k].2.id) ∧ w'.cell? ⟨wr.heap.size, 1, none⟩ = some (.bool q[k].2.ma) ∧ w'.cell? ⟨wr.heap.size, 2, none⟩ = some (.int .i64 q[k].2.sz) ∧ w'.cell? ⟨wr.heap.size, 3, none⟩ = some (.string q[k].2.sum) ∧ w'.cell? ⟨wr.heap.size, 4, none⟩ = some q[k].1) ∧ Hid (Bx w wr.heap.size [.int .i64 q[k].2.id, .bool q[k].2.ma, .int .i64 q[k].2.sz, .string q[k].2.sum, q[k].1] 24 w')) := fun W hW => (CK0.out q[k].1 q[k].2 W (hp.next hW.b)).mono fun e w' ⟨he, hb⟩ => ⟨he, ⟨(hW.next hb).row.cellAt rfl, (hW.next hb).row.cellAt rfl, (hW.next hb).row.cellAt rfl, (hW.next hb).row.cellAt rfl, (hW.next hb).row.cellAt rfl⟩, hW.next hb⟩
      have BM := hid (Bx.made HB.out [.int .i64 q[k].2.id, .bool q[k].2.ma, .int .i64 q[k].2.sz, .string q[k].2.sum, q[k].1] 24)
      have HLT := hid hlt
      have hk32 : (k : Int) < 33 := by have := HL.out; omega
      have hpf := hp.sl
      clear HC HR c0 c1 c2 c3 c4 hp HL CK0 hb HB
      generalize q[k] = y at *
      obtain ⟨pv, id, ma, sz, sum, ps⟩ := y
      simp only at *
      obtain ⟨ad2, cap2, rfl⟩ := hpf
      generalize ps.length = pn at *
      generalize vnE _ = E at *
      generalize vnOk _ = OK at *
      generalize prevI (vqL q) k = PV at *
      have y0 := BM.out.row.cellAt (o := 0) rfl
      have y1 := BM.out.row.cellAt (o := 1) rfl
      have y2 := BM.out.row.cellAt (o := 2) rfl
      have y3 := BM.out.row.cellAt (o := 3) rfl
      have y4 := BM.out.row.cellAt (o := 4) rfl
      rcases HE.out with ⟨rfl, rfl⟩ | ⟨rfl, rfl⟩
      · rcases HPV.out with ⟨hz, rfl⟩ | ⟨m, pi, hz, rfl, hpi⟩
        · have HG := hid (HGO.out rfl rfl)
          have g1 : decide (0 < (k : Int)) = false := decide_eq_false (by omega)
          have g2 : decide (0 < k) = false := decide_eq_false (by omega)
          clear HBAD HGO HE HPV hk hlt hz
          go_wp2
          refine wp_region_held_drew (S := (fun w' => w'.cell? ⟨wr.heap.size, 0, none⟩ = some (.int .i64 id) ∧ w'.cell? ⟨wr.heap.size, 1, none⟩ = some (.bool ma) ∧ w'.cell? ⟨wr.heap.size, 2, none⟩ = some (.int .i64 sz) ∧ w'.cell? ⟨wr.heap.size, 3, none⟩ = some (.string sum) ∧ w'.cell? ⟨wr.heap.size, 4, none⟩ = some (.slice ad2 pn cap2))) (by kernel_rfl) ⟨y0, y1, y2, y3, y4⟩ (fun hHeld => ?_)
          refine wpAnyH_take (i := 0) (v := ?vv5) rfl (by kernel_rfl) (by kernel_rfl) (by kernel_rfl) (fun _ _ _ h => h) (Or.inl ⟨by rfl, ?hy5⟩) (by assumption) ?rest5
          case hy5 => (intro w hSw; (try dsimp only at hSw); go_simp; first | done | with_reducible rfl)
          try simp only [Act.put, List.getElem_toArray, List.getElem_cons_succ, List.getElem_cons_zero, List.setIfInBounds_toArray, List.set_cons_zero, List.set_cons_succ]
          refine wpAnyH_ready (rs := [1]) (by kernel_rfl) (by simp) ?_
          refine AllReadyH.cons rfl (fun K hK => ?_) AllReadyH.nil
          go_simp
          refine (HX.out _ BM.out.drew).mono ?_
          rintro e w5 ⟨rfl, ZC, B5⟩
          go_wp2_with fail
          refine hK.out _ _ ZC (fun hHeld => ?_)
          clear hK K
          try simp only [Act.put, List.getElem_toArray, List.getElem_cons_succ, List.getElem_cons_zero, List.setIfInBounds_toArray, List.set_cons_zero, List.set_cons_succ]
          refine wpAnyH_take (i := 2) (v := ?vv6) rfl (by kernel_rfl) (by kernel_rfl) (by kernel_rfl) (fun _ _ _ h => h) (Or.inl ⟨by rfl, ?hy6⟩) (by assumption) ?rest6
          case hy6 => (intro w hSw; (try dsimp only at hSw); go_simp; first | done | with_reducible rfl)
          try simp only [Act.put, List.getElem_toArray, List.getElem_cons_succ, List.getElem_cons_zero, List.setIfInBounds_toArray, List.set_cons_zero, List.set_cons_succ]
          refine wpAnyH_take (i := 3) (v := ?vv7) rfl (by kernel_rfl) (by kernel_rfl) (by kernel_rfl) (fun _ _ _ h => h) (Or.inl ⟨by rfl, ?hy7⟩) (by assumption) ?rest7
          case hy7 => (intro w hSw; (try dsimp only at hSw); go_simp; first | done | with_reducible rfl)
          try simp only [Act.put, List.getElem_toArray, List.getElem_cons_succ, List.getElem_cons_zero, List.setIfInBounds_toArray, List.set_cons_zero, List.set_cons_succ]
          refine wpAnyH_take (i := 4) (v := ?vv8) rfl (by kernel_rfl) (by kernel_rfl) (by kernel_rfl) (fun _ _ _ h => h) (Or.inl ⟨by rfl, ?hy8⟩) (by assumption) ?rest8
          case hy8 => (intro w hSw; (try dsimp only at hSw); go_simp; first | done | with_reducible rfl)
          try simp only [Act.put, List.getElem_toArray, List.getElem_cons_succ, List.getElem_cons_zero, List.setIfInBounds_toArray, List.set_cons_zero, List.set_cons_succ]
          refine wpAnyH_take (i := 5) (v := ?vv9) rfl (by kernel_rfl) (by kernel_rfl) (by kernel_rfl) (fun _ _ _ h => h) (Or.inl ⟨by rfl, ?hy9⟩) (by assumption) ?rest9
          case hy9 => (intro w hSw; (try dsimp only at hSw); go_simp; first | done | with_reducible rfl)
          try simp only [Act.put, List.getElem_toArray, List.getElem_cons_succ, List.getElem_cons_zero, List.setIfInBounds_toArray, List.set_cons_zero, List.set_cons_succ]
          refine wpAnyH_take (i := 6) (v := ?vv10) rfl (by kernel_rfl) (by kernel_rfl) (by kernel_rfl) (fun _ _ _ h => h) (Or.inl ⟨by rfl, ?hy10⟩) (by assumption) ?rest10
          case hy10 => (intro w hSw; (try dsimp only at hSw); go_simp; first | done | with_reducible rfl)
          try simp only [Act.put, List.getElem_toArray, List.getElem_cons_succ, List.getElem_cons_zero, List.setIfInBounds_toArray, List.set_cons_zero, List.set_cons_succ]
          refine wpAnyH_take (i := 7) (v := undef) rfl (by kernel_rfl) (by kernel_rfl) (by kernel_rfl) (fun _ _ _ h => h) (Or.inr ⟨by rfl, rfl⟩) (by assumption) ?_
          try simp only [Act.put, List.getElem_toArray, List.getElem_cons_succ, List.getElem_cons_zero, List.setIfInBounds_toArray, List.set_cons_zero, List.set_cons_succ]
          refine wpAnyH_take (i := 8) (v := undef) rfl (by kernel_rfl) (by kernel_rfl) (by kernel_rfl) (fun _ _ _ h => h) (Or.inr ⟨by rfl, rfl⟩) (by assumption) ?_
          try simp only [Act.put, List.getElem_toArray, List.getElem_cons_succ, List.getElem_cons_zero, List.setIfInBounds_toArray, List.set_cons_zero, List.set_cons_succ]
          refine wpAnyH_take (i := 9) (v := undef) rfl (by kernel_rfl) (by kernel_rfl) (by kernel_rfl) (fun _ _ _ h => h) (Or.inr ⟨by rfl, rfl⟩) (by assumption) ?_
          try simp only [Act.put, List.getElem_toArray, List.getElem_cons_succ, List.getElem_cons_zero, List.setIfInBounds_toArray, List.set_cons_zero, List.set_cons_succ]
          refine wpAnyH_take (i := 10) (v := undef) rfl (by kernel_rfl) (by kernel_rfl) (by kernel_rfl) (fun _ _ _ h => h) (Or.inr ⟨by rfl, rfl⟩) (by assumption) ?_
          try simp only [Act.put, List.getElem_toArray, List.getElem_cons_succ, List.getElem_cons_zero, List.setIfInBounds_toArray, List.set_cons_zero, List.set_cons_succ]
          refine wpAnyH_take (i := 11) (v := undef) rfl (by kernel_rfl) (by kernel_rfl) (by kernel_rfl) (fun _ _ _ h => h) (Or.inr ⟨by rfl, rfl⟩) (by assumption) ?_
          try simp only [Act.put, List.getElem_toArray, List.getElem_cons_succ, List.getElem_cons_zero, List.setIfInBounds_toArray, List.set_cons_zero, List.set_cons_succ]
          refine wpAnyH_take (i := 12) (v := undef) rfl (by kernel_rfl) (by kernel_rfl) (by kernel_rfl) (fun _ _ _ h => h) (Or.inr ⟨by rfl, rfl⟩) (by assumption) ?_
          try simp only [Act.put, List.getElem_toArray, List.getElem_cons_succ, List.getElem_cons_zero, List.setIfInBounds_toArray, List.set_cons_zero, List.set_cons_succ]
          refine wpAnyH_take (i := 13) (v := undef) rfl (by kernel_rfl) (by kernel_rfl) (by kernel_rfl) (fun _ _ _ h => h) (Or.inr ⟨by rfl, rfl⟩) (by assumption) ?_
          try simp only [Act.put, List.getElem_toArray, List.getElem_cons_succ, List.getElem_cons_zero, List.setIfInBounds_toArray, List.set_cons_zero, List.set_cons_succ]
          refine wpAnyH_take (i := 14) (v := undef) rfl (by kernel_rfl) (by kernel_rfl) (by kernel_rfl) (fun _ _ _ h => h) (Or.inr ⟨by rfl, rfl⟩) (by assumption) ?_
          try simp only [Act.put, List.getElem_toArray, List.getElem_cons_succ, List.getElem_cons_zero, List.setIfInBounds_toArray, List.set_cons_zero, List.set_cons_succ]
          refine wpAnyH_take (i := 15) (v := undef) rfl (by kernel_rfl) (by kernel_rfl) (by kernel_rfl) (fun _ _ _ h => h) (Or.inr ⟨by rfl, rfl⟩) (by assumption) ?_
          try simp only [Act.put, List.getElem_toArray, List.getElem_cons_succ, List.getElem_cons_zero, List.setIfInBounds_toArray, List.set_cons_zero, List.set_cons_succ]
          refine wpAnyH_take (i := 16) (v := ?vv11) rfl (by kernel_rfl) (by kernel_rfl) (by kernel_rfl) (fun _ _ _ h => h) (Or.inl ⟨by rfl, ?hy11⟩) (by assumption) ?rest11
          case hy11 => (intro w hSw; (try dsimp only at hSw); go_simp; first | done | with_reducible rfl)
          try simp only [Act.put, List.getElem_toArray, List.getElem_cons_succ, List.getElem_cons_zero, List.setIfInBounds_toArray, List.set_cons_zero, List.set_cons_succ]
          refine wpAnyH_take (i := 17) (v := ?vv12) rfl (by kernel_rfl) (by kernel_rfl) (by kernel_rfl) (fun _ _ _ h => h) (Or.inl ⟨by rfl, ?hy12⟩) (by assumption) ?rest12
          case hy12 => (intro w hSw; (try dsimp only at hSw); go_simp; first | done | with_reducible rfl)
          try simp only [Act.put, List.getElem_toArray, List.getElem_cons_succ, List.getElem_cons_zero, List.setIfInBounds_toArray, List.set_cons_zero, List.set_cons_succ]
          refine wpAnyH_done (by kernel_rfl) ?_ _
          clear hHeld ZC
          go_wp2
          exact ⟨⟨k + 1, HLT.out, by first | rw [hwk] | rfl | simp, B5.out.b, HG⟩, by (try rw [hwk]); have := HLT.out; simp [intOf]; omega⟩
        · have g1 : decide (0 < (k : Int)) = true := decide_eq_true (by omega)
          have g2 : decide (0 < k) = true := decide_eq_true (by omega)
          have hw1 : wrap64 ((k : Int) - 1) = (m : Int) := by rw [IntWalk.wrap64_in _ (by omega)]; omega
          have hw2 : IntKind.i64.wrap ((k : Int) - 1) = (m : Int) := by rw [IntKind.wrap_i64]; omega
          have hm0 : (0 : Int) ≤ (m : Int) := by omega
          have hm1 : (m : Int) < (q.length : Int) := by omega
          have HPI := hid hpi
          have yp := HPI.out _ BM.out.b
          have HX2 : Hid (∀ W, Bx w wr.heap.size [.int .i64 id, .bool ma, .int .i64 sz, .string sum, .slice ad2 pn cap2] 24 W → Calls Try.prog 13 #[.agg #[.int .i64 id, .bool ma, .int .i64 sz, .string sum, .slice ad2 pn cap2]] W fun e w' => e = .returned (.int .i64 0) ∧ ((w'.cell? ⟨wr.heap.size, 0, none⟩ = some (.int .i64 id) ∧ w'.cell? ⟨wr.heap.size, 1, none⟩ = some (.bool ma) ∧ w'.cell? ⟨wr.heap.size, 2, none⟩ = some (.int .i64 sz) ∧ w'.cell? ⟨wr.heap.size, 3, none⟩ = some (.string sum) ∧ w'.cell? ⟨wr.heap.size, 4, none⟩ = some (.slice ad2 pn cap2)) ∧ w'.cell? ⟨b, off + m * 5, none⟩ = some (.int .i64 pi)) ∧ Hid (Bx w wr.heap.size [.int .i64 id, .bool ma, .int .i64 sz, .string sum, .slice ad2 pn cap2] 24 w')) := fun W hW => (HX.out W hW).mono fun e w' ⟨he, hz, hb⟩ => ⟨he, ⟨hz, HPI.out _ hb.out.b⟩, hb⟩
          by_cases hge : pi ≤ id
          · have g3 : decide (pi ≤ id) = true := decide_eq_true hge
            have hr := HBAD.out (.inr (show decide (id < pi) = false from decide_eq_false (by omega)))
            subst hr
            clear HBAD HGO HE HPV hk hlt hz hpi HX hge
            go_wp2
            go_region_held3 (fun w' => (w'.cell? ⟨wr.heap.size, 0, none⟩ = some (.int .i64 id) ∧ w'.cell? ⟨wr.heap.size, 1, none⟩ = some (.bool ma) ∧ w'.cell? ⟨wr.heap.size, 2, none⟩ = some (.int .i64 sz) ∧ w'.cell? ⟨wr.heap.size, 3, none⟩ = some (.string sum) ∧ w'.cell? ⟨wr.heap.size, 4, none⟩ = some (.slice ad2 pn cap2)) ∧ w'.cell? ⟨b, off + m * 5, none⟩ = some (.int .i64 pi)) (first | exact ⟨⟨y0, y1, y2, y3, y4⟩, yp⟩ | with_reducible assumption) (first | (go_at_call 13; with_reducible (refine (HX2.out _ ?_).mono ?_); (exact BM.out.drew); rintro e w5 ⟨rfl, ZC, B5⟩))
            clear ZC
            go_wp2
            go_ret
            exact ⟨rfl, B5.out.b⟩
          · have g3 : decide (pi ≤ id) = false := decide_eq_false hge
            have HG := hid (HGO.out rfl (show decide (id < pi) = true from decide_eq_true (by omega)))
            clear HBAD HGO HE HPV hk hlt hz hpi HX hge
            go_wp2
            go_region_held3 (fun w' => (w'.cell? ⟨wr.heap.size, 0, none⟩ = some (.int .i64 id) ∧ w'.cell? ⟨wr.heap.size, 1, none⟩ = some (.bool ma) ∧ w'.cell? ⟨wr.heap.size, 2, none⟩ = some (.int .i64 sz) ∧ w'.cell? ⟨wr.heap.size, 3, none⟩ = some (.string sum) ∧ w'.cell? ⟨wr.heap.size, 4, none⟩ = some (.slice ad2 pn cap2)) ∧ w'.cell? ⟨b, off + m * 5, none⟩ = some (.int .i64 pi)) (first | exact ⟨⟨y0, y1, y2, y3, y4⟩, yp⟩ | with_reducible assumption) (first | (go_at_call 13; with_reducible (refine (HX2.out _ ?_).mono ?_); (exact BM.out.drew); rintro e w5 ⟨rfl, ZC, B5⟩))
            clear ZC
            go_wp2
            exact ⟨⟨k + 1, HLT.out, by first | rw [hwk] | rfl | simp, B5.out.b, HG⟩, by (try rw [hwk]); have := HLT.out; simp [intOf]; omega⟩
      · have hr := HBAD.out (.inl rfl)
        subst hr
        clear HBAD HGO HE HPV hk hlt
        go_wp2
        refine wp_region_held_drew (S := (fun w' => w'.cell? ⟨wr.heap.size, 0, none⟩ = some (.int .i64 id) ∧ w'.cell? ⟨wr.heap.size, 1, none⟩ = some (.bool ma) ∧ w'.cell? ⟨wr.heap.size, 2, none⟩ = some (.int .i64 sz) ∧ w'.cell? ⟨wr.heap.size, 3, none⟩ = some (.string sum) ∧ w'.cell? ⟨wr.heap.size, 4, none⟩ = some (.slice ad2 pn cap2))) (by kernel_rfl) ⟨y0, y1, y2, y3, y4⟩ (fun hHeld => ?_)
        refine wpAnyH_take (i := 0) (v := ?vv1) rfl (by kernel_rfl) (by kernel_rfl) (by kernel_rfl) (fun _ _ _ h => h) (Or.inl ⟨by rfl, ?hy1⟩) (by assumption) ?rest1
        case hy1 => (intro w hSw; (try dsimp only at hSw); go_simp; first | done | with_reducible rfl)
        try simp only [Act.put, List.getElem_toArray, List.getElem_cons_succ, List.getElem_cons_zero, List.setIfInBounds_toArray, List.set_cons_zero, List.set_cons_succ]
        refine wpAnyH_ready (rs := [1]) (by kernel_rfl) (by simp) ?_
        refine AllReadyH.cons rfl (fun K hK => ?_) AllReadyH.nil
        go_simp
        refine (HX.out _ BM.out.drew).mono ?_
        rintro e w5 ⟨rfl, ZC, B5⟩
        go_wp2_with fail
        refine hK.out _ _ ZC (fun hHeld => ?_)
        clear hK K
        try simp only [Act.put, List.getElem_toArray, List.getElem_cons_succ, List.getElem_cons_zero, List.setIfInBounds_toArray, List.set_cons_zero, List.set_cons_succ]
        refine wpAnyH_take (i := 2) (v := ?vv2) rfl (by kernel_rfl) (by kernel_rfl) (by kernel_rfl) (fun _ _ _ h => h) (Or.inl ⟨by rfl, ?hy2⟩) (by assumption) ?rest2
        case hy2 => (intro w hSw; (try dsimp only at hSw); go_simp; first | done | with_reducible rfl)
        try simp only [Act.put, List.getElem_toArray, List.getElem_cons_succ, List.getElem_cons_zero, List.setIfInBounds_toArray, List.set_cons_zero, List.set_cons_succ]
        refine wpAnyH_take (i := 3) (v := ?vv3) rfl (by kernel_rfl) (by kernel_rfl) (by kernel_rfl) (fun _ _ _ h => h) (Or.inl ⟨by rfl, ?hy3⟩) (by assumption) ?rest3
        case hy3 => (intro w hSw; (try dsimp only at hSw); go_simp; first | done | with_reducible rfl)
        try simp only [Act.put, List.getElem_toArray, List.getElem_cons_succ, List.getElem_cons_zero, List.setIfInBounds_toArray, List.set_cons_zero, List.set_cons_succ]
        refine wpAnyH_take (i := 4) (v := undef) rfl (by kernel_rfl) (by kernel_rfl) (by kernel_rfl) (fun _ _ _ h => h) (Or.inr ⟨by rfl, rfl⟩) (by assumption) ?_
        try simp only [Act.put, List.getElem_toArray, List.getElem_cons_succ, List.getElem_cons_zero, List.setIfInBounds_toArray, List.set_cons_zero, List.set_cons_succ]
        refine wpAnyH_take (i := 5) (v := undef) rfl (by kernel_rfl) (by kernel_rfl) (by kernel_rfl) (fun _ _ _ h => h) (Or.inr ⟨by rfl, rfl⟩) (by assumption) ?_
        try simp only [Act.put, List.getElem_toArray, List.getElem_cons_succ, List.getElem_cons_zero, List.setIfInBounds_toArray, List.set_cons_zero, List.set_cons_succ]
        refine wpAnyH_take (i := 6) (v := undef) rfl (by kernel_rfl) (by kernel_rfl) (by kernel_rfl) (fun _ _ _ h => h) (Or.inr ⟨by rfl, rfl⟩) (by assumption) ?_
        try simp only [Act.put, List.getElem_toArray, List.getElem_cons_succ, List.getElem_cons_zero, List.setIfInBounds_toArray, List.set_cons_zero, List.set_cons_succ]
        refine wpAnyH_take (i := 7) (v := undef) rfl (by kernel_rfl) (by kernel_rfl) (by kernel_rfl) (fun _ _ _ h => h) (Or.inr ⟨by rfl, rfl⟩) (by assumption) ?_
        try simp only [Act.put, List.getElem_toArray, List.getElem_cons_succ, List.getElem_cons_zero, List.setIfInBounds_toArray, List.set_cons_zero, List.set_cons_succ]
        refine wpAnyH_take (i := 8) (v := undef) rfl (by kernel_rfl) (by kernel_rfl) (by kernel_rfl) (fun _ _ _ h => h) (Or.inr ⟨by rfl, rfl⟩) (by assumption) ?_
        try simp only [Act.put, List.getElem_toArray, List.getElem_cons_succ, List.getElem_cons_zero, List.setIfInBounds_toArray, List.set_cons_zero, List.set_cons_succ]
        refine wpAnyH_take (i := 9) (v := undef) rfl (by kernel_rfl) (by kernel_rfl) (by kernel_rfl) (fun _ _ _ h => h) (Or.inr ⟨by rfl, rfl⟩) (by assumption) ?_
        try simp only [Act.put, List.getElem_toArray, List.getElem_cons_succ, List.getElem_cons_zero, List.setIfInBounds_toArray, List.set_cons_zero, List.set_cons_succ]
        refine wpAnyH_take (i := 10) (v := undef) rfl (by kernel_rfl) (by kernel_rfl) (by kernel_rfl) (fun _ _ _ h => h) (Or.inr ⟨by rfl, rfl⟩) (by assumption) ?_
        try simp only [Act.put, List.getElem_toArray, List.getElem_cons_succ, List.getElem_cons_zero, List.setIfInBounds_toArray, List.set_cons_zero, List.set_cons_succ]
        refine wpAnyH_take (i := 11) (v := undef) rfl (by kernel_rfl) (by kernel_rfl) (by kernel_rfl) (fun _ _ _ h => h) (Or.inr ⟨by rfl, rfl⟩) (by assumption) ?_
        try simp only [Act.put, List.getElem_toArray, List.getElem_cons_succ, List.getElem_cons_zero, List.setIfInBounds_toArray, List.set_cons_zero, List.set_cons_succ]
        refine wpAnyH_take (i := 12) (v := undef) rfl (by kernel_rfl) (by kernel_rfl) (by kernel_rfl) (fun _ _ _ h => h) (Or.inr ⟨by rfl, rfl⟩) (by assumption) ?_
        try simp only [Act.put, List.getElem_toArray, List.getElem_cons_succ, List.getElem_cons_zero, List.setIfInBounds_toArray, List.set_cons_zero, List.set_cons_succ]
        refine wpAnyH_take (i := 13) (v := undef) rfl (by kernel_rfl) (by kernel_rfl) (by kernel_rfl) (fun _ _ _ h => h) (Or.inr ⟨by rfl, rfl⟩) (by assumption) ?_
        try simp only [Act.put, List.getElem_toArray, List.getElem_cons_succ, List.getElem_cons_zero, List.setIfInBounds_toArray, List.set_cons_zero, List.set_cons_succ]
        refine wpAnyH_take (i := 14) (v := undef) rfl (by kernel_rfl) (by kernel_rfl) (by kernel_rfl) (fun _ _ _ h => h) (Or.inr ⟨by rfl, rfl⟩) (by assumption) ?_
        try simp only [Act.put, List.getElem_toArray, List.getElem_cons_succ, List.getElem_cons_zero, List.setIfInBounds_toArray, List.set_cons_zero, List.set_cons_succ]
        refine wpAnyH_take (i := 15) (v := undef) rfl (by kernel_rfl) (by kernel_rfl) (by kernel_rfl) (fun _ _ _ h => h) (Or.inr ⟨by rfl, rfl⟩) (by assumption) ?_
        try simp only [Act.put, List.getElem_toArray, List.getElem_cons_succ, List.getElem_cons_zero, List.setIfInBounds_toArray, List.set_cons_zero, List.set_cons_succ]
        refine wpAnyH_take (i := 16) (v := undef) rfl (by kernel_rfl) (by kernel_rfl) (by kernel_rfl) (fun _ _ _ h => h) (Or.inr ⟨by rfl, rfl⟩) (by assumption) ?_
        try simp only [Act.put, List.getElem_toArray, List.getElem_cons_succ, List.getElem_cons_zero, List.setIfInBounds_toArray, List.set_cons_zero, List.set_cons_succ]
        refine wpAnyH_take (i := 17) (v := ?vv4) rfl (by kernel_rfl) (by kernel_rfl) (by kernel_rfl) (fun _ _ _ h => h) (Or.inl ⟨by rfl, ?hy4⟩) (by assumption) ?rest4
        case hy4 => (intro w hSw; (try dsimp only at hSw); go_simp; first | done | with_reducible rfl)
        try simp only [Act.put, List.getElem_toArray, List.getElem_cons_succ, List.getElem_cons_zero, List.setIfInBounds_toArray, List.set_cons_zero, List.set_cons_succ]
        refine wpAnyH_done (by kernel_rfl) ?_ _
        clear hHeld ZC
        go_wp2
        go_ret
        exact ⟨rfl, B5.out.b⟩
    · have hke : k = q.length := by omega
      have hd : decide ((k : Int) < (q.length : Int)) = false := decide_eq_false (by omega)
      have hd2 : decide (k < q.length) = false := decide_eq_false hlt
      have HS : Hid (R = true) := by
        show _ = _
        rw [HR.out, List.drop_eq_nil_of_le (by rw [vqL_len]; omega)]; rfl
      have hr := HS.out
      subst hr
      clear HC HR HS HL CK0 hke hlt hk
      go_wp2
      go_ret
      exact ⟨rfl, HB.out⟩
set_option maxRecDepth 100000 in
set_option maxHeartbeats 2000000 in
theorem rmay_any (v : Value) (q : List (Value × Vn)) (w : World) (hv : VnI w v q) (hl : q.length ≤ 8796093022208) (hs : ∀ y ∈ q, y.2.sum.size ≤ 140737488355328 ∧ y.2.ps.length ≤ 8796093022208 ∧ ∀ p ∈ y.2.ps, p.id.size ≤ 140737488355328) : Calls Try.prog 41 #[v] w fun e w' => e = .returned (.bool (isCh (vqL q))) ∧ Below w.heap.size w w' := by
  obtain ⟨ad, cap, rfl, hc⟩ := hv.form
  have HL := hid hl
  have HC := hid hc
  have HRC : Hid (isCh (vqL q) = (decide (q.length ≤ 32) && chF none (vqL q))) := by show _ = _; unfold isCh; rw [vqL_len]
  have HR0 : Hid (chF none (vqL q) = chF (prevI (vqL q) 0) ((vqL q).drop 0)) := by show _ = _; simp [prevI]
  have CK0 : Hid (∀ (k : Nat) (hk : k < q.length) (W : World), PcI W q[k].1 q[k].2.ps → Calls Try.prog 14 #[vnV q[k]] W fun e w' => e = .returned (.int .i64 (vnE q[k].2)) ∧ Below W.heap.size W w') := fun k hk W hp => by
    obtain ⟨h1, h2, h3⟩ := hs _ (List.getElem_mem hk)
    exact rvcheck_any q[k].1 q[k].2 W hp h2 h3 h1
  generalize isCh (vqL q) = RR at *
  generalize chF none (vqL q) = R at *
  clear hc hv hl hs
  go_enter Try.func41, Try.ntmps41
  go_wp2
  go_loopw [3] (fun i wr => ∃ (k : Nat), k ≤ q.length ∧ i = .int .i64 (k : Int) ∧ Hid (Below w.heap.size w wr) ∧ Hid (R = chF (prevI (vqL q) k) ((vqL q).drop k))) (fun i _ => q.length - (intOf i).toNat)
  case atStart => exact ⟨0, Nat.zero_le _, rfl, Below.refl _ _, HR0⟩
  case round =>
    clear HR0
    obtain ⟨k, hk, rfl, HB, HR⟩ := hrel
    by_cases hlt : k < q.length
    · have hk1 : (k : Int) < (q.length : Int) := by omega
      have hk0 : (0 : Int) ≤ (k : Int) := by omega
      have hwk : wrap64 ((k : Int) + 1) = ((k + 1 : Nat) : Int) := by have := HL.out; rw [IntWalk.wrap64_in _ (by omega)]; omega
      obtain ⟨b, off, rfl, hb, c0, c1, c2, c3, c4, hp⟩ := HC.out k hlt
      have HBAD := hid (ch_bad hlt HR.out)
      have HGO := hid (ch_go hlt HR.out)
      have HE := hid (vnE_cases q[k].2)
      have HPV : Hid (k = 0 ∧ prevI (vqL q) k = none ∨ ∃ (m : Nat) (pi : Int), k = m + 1 ∧ prevI (vqL q) k = some pi ∧ ∀ W, Below w.heap.size w W → W.cell? ⟨b, off + m * 5, none⟩ = some (.int .i64 pi)) := by
        cases k with
        | zero => exact .inl ⟨rfl, rfl⟩
        | succ m =>
          obtain ⟨b', off', e, hb', c0', _⟩ := HC.out m (by omega)
          injection e with e
          injection e with e1 e2
          subst e1 e2
          exact .inr ⟨m, _, rfl, prev_at (by omega), fun W hW => (hW.cell (p := ⟨b, off + m * 5, none⟩) hb').trans c0'⟩
      have HCS : Hid (∀ w', Below w.heap.size w w' → (w'.cell? ⟨b, off + k * 5, none⟩ = some (.int .i64 q[k].2.id) ∧ w'.cell? ⟨b, off + k * 5 + 1, none⟩ = some (.bool q[k].2.ma) ∧ w'.cell? ⟨b, off + k * 5 + 2, none⟩ = some (.int .i64 q[k].2.sz) ∧ w'.cell? ⟨b, off + k * 5 + 3, none⟩ = some (.string q[k].2.sum) ∧ w'.cell? ⟨b, off + k * 5 + 4, none⟩ = some q[k].1)) := fun w' h => ⟨(h.cell (p := ⟨b, off + k * 5, none⟩) hb).trans c0, (h.cell (p := ⟨b, off + k * 5 + 1, none⟩) hb).trans c1, (h.cell (p := ⟨b, off + k * 5 + 2, none⟩) hb).trans c2, (h.cell (p := ⟨b, off + k * 5 + 3, none⟩) hb).trans c3, (h.cell (p := ⟨b, off + k * 5 + 4, none⟩) hb).trans c4⟩
      have HX : Hid (∀ W, Below w.heap.size w W → Calls Try.prog 14 #[.agg #[.int .i64 q[k].2.id, .bool q[k].2.ma, .int .i64 q[k].2.sz, .string q[k].2.sum, q[k].1]] W fun e w' => e = .returned (.int .i64 (vnE q[k].2)) ∧ Hid (Below w.heap.size w w')) := fun W hW => (CK0.out k hlt W (hp.next hW)).mono fun e w' ⟨he, hb⟩ => ⟨he, below_on hW hb⟩
      have HLT := hid hlt
      have hkL : (k : Int) < 8796093022208 := by have := HL.out; omega
      have hpf := hp.sl
      clear HC HR c0 c1 c2 c3 c4 hp HL CK0 hb
      generalize q[k] = y at *
      obtain ⟨pv, id, ma, sz, sum, ps⟩ := y
      simp only at *
      obtain ⟨ad2, cap2, rfl⟩ := hpf
      generalize ps.length = pn at *
      generalize vnE _ = E at *
      generalize vnOk _ = OK at *
      generalize prevI (vqL q) k = PV at *
      have Y5 := hid (HCS.out _ HB.out)
      have BD : Hid (Below w.heap.size w wr.drew) := HB.out.drew
      have HX1 : Hid (∀ W, Below w.heap.size w W → Calls Try.prog 14 #[.agg #[.int .i64 id, .bool ma, .int .i64 sz, .string sum, .slice ad2 pn cap2]] W fun e w' => e = .returned (.int .i64 E) ∧ (w'.cell? ⟨b, off + k * 5, none⟩ = some (.int .i64 id) ∧ w'.cell? ⟨b, off + k * 5 + 1, none⟩ = some (.bool ma) ∧ w'.cell? ⟨b, off + k * 5 + 2, none⟩ = some (.int .i64 sz) ∧ w'.cell? ⟨b, off + k * 5 + 3, none⟩ = some (.string sum) ∧ w'.cell? ⟨b, off + k * 5 + 4, none⟩ = some (.slice ad2 pn cap2)) ∧ Hid (Below w.heap.size w w')) := fun W hW => (HX.out W hW).mono fun e w' ⟨he, hb⟩ => ⟨he, HCS.out _ hb.out, hb⟩
      rcases HE.out with ⟨rfl, rfl⟩ | ⟨rfl, rfl⟩
      · rcases HPV.out with ⟨hz, rfl⟩ | ⟨m, pi, hz, rfl, hpi⟩
        · have HG := hid (HGO.out rfl rfl)
          have g1 : decide (0 < (k : Int)) = false := decide_eq_false (by omega)
          have g2 : decide (0 < k) = false := decide_eq_false (by omega)
          clear HBAD HGO HE HPV hk hlt hz HX HCS HRC
          go_wp2
          refine wp_region_held_drew (S := (fun w' => (w'.cell? ⟨b, off + k * 5, none⟩ = some (.int .i64 id) ∧ w'.cell? ⟨b, off + k * 5 + 1, none⟩ = some (.bool ma) ∧ w'.cell? ⟨b, off + k * 5 + 2, none⟩ = some (.int .i64 sz) ∧ w'.cell? ⟨b, off + k * 5 + 3, none⟩ = some (.string sum) ∧ w'.cell? ⟨b, off + k * 5 + 4, none⟩ = some (.slice ad2 pn cap2)))) (by kernel_rfl) Y5.out (fun hHeld => ?_)
          refine wpAnyH_take (i := 0) (v := ?vv20) rfl (by kernel_rfl) (by kernel_rfl) (by kernel_rfl) (fun _ _ _ h => h) (Or.inl ⟨by rfl, ?hy20⟩) (by assumption) ?rest20
          case hy20 => (intro w hSw; (try dsimp only at hSw); go_simp; first | done | with_reducible rfl)
          try simp only [Act.put, List.getElem_toArray, List.getElem_cons_succ, List.getElem_cons_zero, List.setIfInBounds_toArray, List.set_cons_zero, List.set_cons_succ]
          refine wpAnyH_take (i := 1) (v := ?vv21) rfl (by kernel_rfl) (by kernel_rfl) (by kernel_rfl) (fun _ _ _ h => h) (Or.inl ⟨by rfl, ?hy21⟩) (by assumption) ?rest21
          case hy21 => (intro w hSw; (try dsimp only at hSw); go_simp; first | done | with_reducible rfl)
          try simp only [Act.put, List.getElem_toArray, List.getElem_cons_succ, List.getElem_cons_zero, List.setIfInBounds_toArray, List.set_cons_zero, List.set_cons_succ]
          refine wpAnyH_take (i := 2) (v := ?vv22) rfl (by kernel_rfl) (by kernel_rfl) (by kernel_rfl) (fun _ _ _ h => h) (Or.inl ⟨by rfl, ?hy22⟩) (by assumption) ?rest22
          case hy22 => (intro w hSw; (try dsimp only at hSw); go_simp; first | done | with_reducible rfl)
          try simp only [Act.put, List.getElem_toArray, List.getElem_cons_succ, List.getElem_cons_zero, List.setIfInBounds_toArray, List.set_cons_zero, List.set_cons_succ]
          refine wpAnyH_take (i := 3) (v := ?vv23) rfl (by kernel_rfl) (by kernel_rfl) (by kernel_rfl) (fun _ _ _ h => h) (Or.inl ⟨by rfl, ?hy23⟩) (by assumption) ?rest23
          case hy23 => (intro w hSw; (try dsimp only at hSw); go_simp; first | done | with_reducible rfl)
          try simp only [Act.put, List.getElem_toArray, List.getElem_cons_succ, List.getElem_cons_zero, List.setIfInBounds_toArray, List.set_cons_zero, List.set_cons_succ]
          refine wpAnyH_ready (rs := [4]) (by kernel_rfl) (by simp) ?_
          refine AllReadyH.cons rfl (fun K hK => ?_) AllReadyH.nil
          go_simp
          refine (HX1.out _ BD.out).mono ?_
          rintro e w5 ⟨rfl, ZC, B5⟩
          go_wp2_with fail
          refine hK.out _ _ ZC (fun hHeld => ?_)
          clear hK K
          try simp only [Act.put, List.getElem_toArray, List.getElem_cons_succ, List.getElem_cons_zero, List.setIfInBounds_toArray, List.set_cons_zero, List.set_cons_succ]
          refine wpAnyH_take (i := 5) (v := ?vv24) rfl (by kernel_rfl) (by kernel_rfl) (by kernel_rfl) (fun _ _ _ h => h) (Or.inl ⟨by rfl, ?hy24⟩) (by assumption) ?rest24
          case hy24 => (intro w hSw; (try dsimp only at hSw); go_simp; first | done | with_reducible rfl)
          try simp only [Act.put, List.getElem_toArray, List.getElem_cons_succ, List.getElem_cons_zero, List.setIfInBounds_toArray, List.set_cons_zero, List.set_cons_succ]
          refine wpAnyH_take (i := 6) (v := ?vv25) rfl (by kernel_rfl) (by kernel_rfl) (by kernel_rfl) (fun _ _ _ h => h) (Or.inl ⟨by rfl, ?hy25⟩) (by assumption) ?rest25
          case hy25 => (intro w hSw; (try dsimp only at hSw); go_simp; first | done | with_reducible rfl)
          try simp only [Act.put, List.getElem_toArray, List.getElem_cons_succ, List.getElem_cons_zero, List.setIfInBounds_toArray, List.set_cons_zero, List.set_cons_succ]
          refine wpAnyH_take (i := 7) (v := ?vv26) rfl (by kernel_rfl) (by kernel_rfl) (by kernel_rfl) (fun _ _ _ h => h) (Or.inl ⟨by rfl, ?hy26⟩) (by assumption) ?rest26
          case hy26 => (intro w hSw; (try dsimp only at hSw); go_simp; first | done | with_reducible rfl)
          try simp only [Act.put, List.getElem_toArray, List.getElem_cons_succ, List.getElem_cons_zero, List.setIfInBounds_toArray, List.set_cons_zero, List.set_cons_succ]
          refine wpAnyH_take (i := 8) (v := ?vv27) rfl (by kernel_rfl) (by kernel_rfl) (by kernel_rfl) (fun _ _ _ h => h) (Or.inl ⟨by rfl, ?hy27⟩) (by assumption) ?rest27
          case hy27 => (intro w hSw; (try dsimp only at hSw); go_simp; first | done | with_reducible rfl)
          try simp only [Act.put, List.getElem_toArray, List.getElem_cons_succ, List.getElem_cons_zero, List.setIfInBounds_toArray, List.set_cons_zero, List.set_cons_succ]
          refine wpAnyH_take (i := 9) (v := ?vv28) rfl (by kernel_rfl) (by kernel_rfl) (by kernel_rfl) (fun _ _ _ h => h) (Or.inl ⟨by rfl, ?hy28⟩) (by assumption) ?rest28
          case hy28 => (intro w hSw; (try dsimp only at hSw); go_simp; first | done | with_reducible rfl)
          try simp only [Act.put, List.getElem_toArray, List.getElem_cons_succ, List.getElem_cons_zero, List.setIfInBounds_toArray, List.set_cons_zero, List.set_cons_succ]
          refine wpAnyH_take (i := 10) (v := undef) rfl (by kernel_rfl) (by kernel_rfl) (by kernel_rfl) (fun _ _ _ h => h) (Or.inr ⟨by rfl, rfl⟩) (by assumption) ?_
          try simp only [Act.put, List.getElem_toArray, List.getElem_cons_succ, List.getElem_cons_zero, List.setIfInBounds_toArray, List.set_cons_zero, List.set_cons_succ]
          refine wpAnyH_take (i := 11) (v := undef) rfl (by kernel_rfl) (by kernel_rfl) (by kernel_rfl) (fun _ _ _ h => h) (Or.inr ⟨by rfl, rfl⟩) (by assumption) ?_
          try simp only [Act.put, List.getElem_toArray, List.getElem_cons_succ, List.getElem_cons_zero, List.setIfInBounds_toArray, List.set_cons_zero, List.set_cons_succ]
          refine wpAnyH_take (i := 12) (v := undef) rfl (by kernel_rfl) (by kernel_rfl) (by kernel_rfl) (fun _ _ _ h => h) (Or.inr ⟨by rfl, rfl⟩) (by assumption) ?_
          try simp only [Act.put, List.getElem_toArray, List.getElem_cons_succ, List.getElem_cons_zero, List.setIfInBounds_toArray, List.set_cons_zero, List.set_cons_succ]
          refine wpAnyH_take (i := 13) (v := undef) rfl (by kernel_rfl) (by kernel_rfl) (by kernel_rfl) (fun _ _ _ h => h) (Or.inr ⟨by rfl, rfl⟩) (by assumption) ?_
          try simp only [Act.put, List.getElem_toArray, List.getElem_cons_succ, List.getElem_cons_zero, List.setIfInBounds_toArray, List.set_cons_zero, List.set_cons_succ]
          refine wpAnyH_take (i := 14) (v := undef) rfl (by kernel_rfl) (by kernel_rfl) (by kernel_rfl) (fun _ _ _ h => h) (Or.inr ⟨by rfl, rfl⟩) (by assumption) ?_
          try simp only [Act.put, List.getElem_toArray, List.getElem_cons_succ, List.getElem_cons_zero, List.setIfInBounds_toArray, List.set_cons_zero, List.set_cons_succ]
          refine wpAnyH_take (i := 15) (v := undef) rfl (by kernel_rfl) (by kernel_rfl) (by kernel_rfl) (fun _ _ _ h => h) (Or.inr ⟨by rfl, rfl⟩) (by assumption) ?_
          try simp only [Act.put, List.getElem_toArray, List.getElem_cons_succ, List.getElem_cons_zero, List.setIfInBounds_toArray, List.set_cons_zero, List.set_cons_succ]
          refine wpAnyH_take (i := 16) (v := undef) rfl (by kernel_rfl) (by kernel_rfl) (by kernel_rfl) (fun _ _ _ h => h) (Or.inr ⟨by rfl, rfl⟩) (by assumption) ?_
          try simp only [Act.put, List.getElem_toArray, List.getElem_cons_succ, List.getElem_cons_zero, List.setIfInBounds_toArray, List.set_cons_zero, List.set_cons_succ]
          refine wpAnyH_take (i := 17) (v := undef) rfl (by kernel_rfl) (by kernel_rfl) (by kernel_rfl) (fun _ _ _ h => h) (Or.inr ⟨by rfl, rfl⟩) (by assumption) ?_
          try simp only [Act.put, List.getElem_toArray, List.getElem_cons_succ, List.getElem_cons_zero, List.setIfInBounds_toArray, List.set_cons_zero, List.set_cons_succ]
          refine wpAnyH_take (i := 18) (v := undef) rfl (by kernel_rfl) (by kernel_rfl) (by kernel_rfl) (fun _ _ _ h => h) (Or.inr ⟨by rfl, rfl⟩) (by assumption) ?_
          try simp only [Act.put, List.getElem_toArray, List.getElem_cons_succ, List.getElem_cons_zero, List.setIfInBounds_toArray, List.set_cons_zero, List.set_cons_succ]
          refine wpAnyH_take (i := 19) (v := undef) rfl (by kernel_rfl) (by kernel_rfl) (by kernel_rfl) (fun _ _ _ h => h) (Or.inr ⟨by rfl, rfl⟩) (by assumption) ?_
          try simp only [Act.put, List.getElem_toArray, List.getElem_cons_succ, List.getElem_cons_zero, List.setIfInBounds_toArray, List.set_cons_zero, List.set_cons_succ]
          refine wpAnyH_take (i := 20) (v := undef) rfl (by kernel_rfl) (by kernel_rfl) (by kernel_rfl) (fun _ _ _ h => h) (Or.inr ⟨by rfl, rfl⟩) (by assumption) ?_
          try simp only [Act.put, List.getElem_toArray, List.getElem_cons_succ, List.getElem_cons_zero, List.setIfInBounds_toArray, List.set_cons_zero, List.set_cons_succ]
          refine wpAnyH_take (i := 21) (v := undef) rfl (by kernel_rfl) (by kernel_rfl) (by kernel_rfl) (fun _ _ _ h => h) (Or.inr ⟨by rfl, rfl⟩) (by assumption) ?_
          try simp only [Act.put, List.getElem_toArray, List.getElem_cons_succ, List.getElem_cons_zero, List.setIfInBounds_toArray, List.set_cons_zero, List.set_cons_succ]
          refine wpAnyH_take (i := 22) (v := ?vv29) rfl (by kernel_rfl) (by kernel_rfl) (by kernel_rfl) (fun _ _ _ h => h) (Or.inl ⟨by rfl, ?hy29⟩) (by assumption) ?rest29
          case hy29 => (intro w hSw; (try dsimp only at hSw); go_simp; first | done | with_reducible rfl)
          try simp only [Act.put, List.getElem_toArray, List.getElem_cons_succ, List.getElem_cons_zero, List.setIfInBounds_toArray, List.set_cons_zero, List.set_cons_succ]
          refine wpAnyH_take (i := 23) (v := ?vv30) rfl (by kernel_rfl) (by kernel_rfl) (by kernel_rfl) (fun _ _ _ h => h) (Or.inl ⟨by rfl, ?hy30⟩) (by assumption) ?rest30
          case hy30 => (intro w hSw; (try dsimp only at hSw); go_simp; first | done | with_reducible rfl)
          try simp only [Act.put, List.getElem_toArray, List.getElem_cons_succ, List.getElem_cons_zero, List.setIfInBounds_toArray, List.set_cons_zero, List.set_cons_succ]
          refine wpAnyH_done (by kernel_rfl) ?_ _
          clear hHeld ZC
          go_wp2
          exact ⟨⟨k + 1, HLT.out, by first | rw [hwk] | rfl | simp, B5, HG⟩, by (try rw [hwk]); have := HLT.out; simp [intOf]; omega⟩
        · have g1 : decide (0 < (k : Int)) = true := decide_eq_true (by omega)
          have g2 : decide (0 < k) = true := decide_eq_true (by omega)
          have hw1 : wrap64 ((k : Int) - 1) = (m : Int) := by rw [IntWalk.wrap64_in _ (by omega)]; omega
          have hw2 : IntKind.i64.wrap ((k : Int) - 1) = (m : Int) := by rw [IntKind.wrap_i64]; omega
          have hm0 : (0 : Int) ≤ (m : Int) := by omega
          have hm1 : (m : Int) < (q.length : Int) := by omega
          have HPI := hid hpi
          have Y6 : Hid ((wr.cell? ⟨b, off + k * 5, none⟩ = some (.int .i64 id) ∧ wr.cell? ⟨b, off + k * 5 + 1, none⟩ = some (.bool ma) ∧ wr.cell? ⟨b, off + k * 5 + 2, none⟩ = some (.int .i64 sz) ∧ wr.cell? ⟨b, off + k * 5 + 3, none⟩ = some (.string sum) ∧ wr.cell? ⟨b, off + k * 5 + 4, none⟩ = some (.slice ad2 pn cap2)) ∧ wr.cell? ⟨b, off + m * 5, none⟩ = some (.int .i64 pi)) := ⟨Y5.out, HPI.out _ HB.out⟩
          have HX2 : Hid (∀ W, Below w.heap.size w W → Calls Try.prog 14 #[.agg #[.int .i64 id, .bool ma, .int .i64 sz, .string sum, .slice ad2 pn cap2]] W fun e w' => e = .returned (.int .i64 0) ∧ ((w'.cell? ⟨b, off + k * 5, none⟩ = some (.int .i64 id) ∧ w'.cell? ⟨b, off + k * 5 + 1, none⟩ = some (.bool ma) ∧ w'.cell? ⟨b, off + k * 5 + 2, none⟩ = some (.int .i64 sz) ∧ w'.cell? ⟨b, off + k * 5 + 3, none⟩ = some (.string sum) ∧ w'.cell? ⟨b, off + k * 5 + 4, none⟩ = some (.slice ad2 pn cap2)) ∧ w'.cell? ⟨b, off + m * 5, none⟩ = some (.int .i64 pi)) ∧ Hid (Below w.heap.size w w')) := fun W hW => (HX1.out W hW).mono fun e w' ⟨he, hz, hb⟩ => ⟨he, ⟨hz, HPI.out _ hb.out⟩, hb⟩
          by_cases hge : pi ≤ id
          · have g3 : decide (pi ≤ id) = true := decide_eq_true hge
            have hr := HBAD.out (.inr (show decide (id < pi) = false from decide_eq_false (by omega)))
            have hrr : RR = false := by rw [HRC.out, hr]; simp
            subst hrr
            clear HBAD HGO HE HPV hk hlt hz hpi HX HX1 hge HCS HRC HPI
            go_wp2
            go_region_held3 (fun w' => (w'.cell? ⟨b, off + k * 5, none⟩ = some (.int .i64 id) ∧ w'.cell? ⟨b, off + k * 5 + 1, none⟩ = some (.bool ma) ∧ w'.cell? ⟨b, off + k * 5 + 2, none⟩ = some (.int .i64 sz) ∧ w'.cell? ⟨b, off + k * 5 + 3, none⟩ = some (.string sum) ∧ w'.cell? ⟨b, off + k * 5 + 4, none⟩ = some (.slice ad2 pn cap2)) ∧ w'.cell? ⟨b, off + m * 5, none⟩ = some (.int .i64 pi)) (first | exact Y6.out | with_reducible assumption) (first | (go_at_call 14; with_reducible (refine (HX2.out _ ?_).mono ?_); (exact BD.out); rintro e w5 ⟨rfl, ZC, B5⟩))
            clear ZC
            go_wp2
            go_ret
            exact ⟨rfl, B5.out⟩
          · have g3 : decide (pi ≤ id) = false := decide_eq_false hge
            have HG := hid (HGO.out rfl (show decide (id < pi) = true from decide_eq_true (by omega)))
            clear HBAD HGO HE HPV hk hlt hz hpi HX HX1 hge HCS HRC HPI
            go_wp2
            go_region_held3 (fun w' => (w'.cell? ⟨b, off + k * 5, none⟩ = some (.int .i64 id) ∧ w'.cell? ⟨b, off + k * 5 + 1, none⟩ = some (.bool ma) ∧ w'.cell? ⟨b, off + k * 5 + 2, none⟩ = some (.int .i64 sz) ∧ w'.cell? ⟨b, off + k * 5 + 3, none⟩ = some (.string sum) ∧ w'.cell? ⟨b, off + k * 5 + 4, none⟩ = some (.slice ad2 pn cap2)) ∧ w'.cell? ⟨b, off + m * 5, none⟩ = some (.int .i64 pi)) (first | exact Y6.out | with_reducible assumption) (first | (go_at_call 14; with_reducible (refine (HX2.out _ ?_).mono ?_); (exact BD.out); rintro e w5 ⟨rfl, ZC, B5⟩))
            clear ZC
            go_wp2
            exact ⟨⟨k + 1, HLT.out, by first | rw [hwk] | rfl | simp, B5, HG⟩, by (try rw [hwk]); have := HLT.out; simp [intOf]; omega⟩
      · have hr := HBAD.out (.inl rfl)
        have hrr : RR = false := by rw [HRC.out, hr]; simp
        subst hrr
        clear HBAD HGO HE HPV hk hlt HX HCS HRC
        go_wp2
        refine wp_region_held_drew (S := (fun w' => (w'.cell? ⟨b, off + k * 5, none⟩ = some (.int .i64 id) ∧ w'.cell? ⟨b, off + k * 5 + 1, none⟩ = some (.bool ma) ∧ w'.cell? ⟨b, off + k * 5 + 2, none⟩ = some (.int .i64 sz) ∧ w'.cell? ⟨b, off + k * 5 + 3, none⟩ = some (.string sum) ∧ w'.cell? ⟨b, off + k * 5 + 4, none⟩ = some (.slice ad2 pn cap2)))) (by kernel_rfl) Y5.out (fun hHeld => ?_)
        refine wpAnyH_take (i := 0) (v := ?vv13) rfl (by kernel_rfl) (by kernel_rfl) (by kernel_rfl) (fun _ _ _ h => h) (Or.inl ⟨by rfl, ?hy13⟩) (by assumption) ?rest13
        case hy13 => (intro w hSw; (try dsimp only at hSw); go_simp; first | done | with_reducible rfl)
        try simp only [Act.put, List.getElem_toArray, List.getElem_cons_succ, List.getElem_cons_zero, List.setIfInBounds_toArray, List.set_cons_zero, List.set_cons_succ]
        refine wpAnyH_take (i := 1) (v := ?vv14) rfl (by kernel_rfl) (by kernel_rfl) (by kernel_rfl) (fun _ _ _ h => h) (Or.inl ⟨by rfl, ?hy14⟩) (by assumption) ?rest14
        case hy14 => (intro w hSw; (try dsimp only at hSw); go_simp; first | done | with_reducible rfl)
        try simp only [Act.put, List.getElem_toArray, List.getElem_cons_succ, List.getElem_cons_zero, List.setIfInBounds_toArray, List.set_cons_zero, List.set_cons_succ]
        refine wpAnyH_take (i := 2) (v := ?vv15) rfl (by kernel_rfl) (by kernel_rfl) (by kernel_rfl) (fun _ _ _ h => h) (Or.inl ⟨by rfl, ?hy15⟩) (by assumption) ?rest15
        case hy15 => (intro w hSw; (try dsimp only at hSw); go_simp; first | done | with_reducible rfl)
        try simp only [Act.put, List.getElem_toArray, List.getElem_cons_succ, List.getElem_cons_zero, List.setIfInBounds_toArray, List.set_cons_zero, List.set_cons_succ]
        refine wpAnyH_take (i := 3) (v := ?vv16) rfl (by kernel_rfl) (by kernel_rfl) (by kernel_rfl) (fun _ _ _ h => h) (Or.inl ⟨by rfl, ?hy16⟩) (by assumption) ?rest16
        case hy16 => (intro w hSw; (try dsimp only at hSw); go_simp; first | done | with_reducible rfl)
        try simp only [Act.put, List.getElem_toArray, List.getElem_cons_succ, List.getElem_cons_zero, List.setIfInBounds_toArray, List.set_cons_zero, List.set_cons_succ]
        refine wpAnyH_ready (rs := [4]) (by kernel_rfl) (by simp) ?_
        refine AllReadyH.cons rfl (fun K hK => ?_) AllReadyH.nil
        go_simp
        refine (HX1.out _ BD.out).mono ?_
        rintro e w5 ⟨rfl, ZC, B5⟩
        go_wp2_with fail
        refine hK.out _ _ ZC (fun hHeld => ?_)
        clear hK K
        try simp only [Act.put, List.getElem_toArray, List.getElem_cons_succ, List.getElem_cons_zero, List.setIfInBounds_toArray, List.set_cons_zero, List.set_cons_succ]
        refine wpAnyH_take (i := 5) (v := ?vv17) rfl (by kernel_rfl) (by kernel_rfl) (by kernel_rfl) (fun _ _ _ h => h) (Or.inl ⟨by rfl, ?hy17⟩) (by assumption) ?rest17
        case hy17 => (intro w hSw; (try dsimp only at hSw); go_simp; first | done | with_reducible rfl)
        try simp only [Act.put, List.getElem_toArray, List.getElem_cons_succ, List.getElem_cons_zero, List.setIfInBounds_toArray, List.set_cons_zero, List.set_cons_succ]
        refine wpAnyH_take (i := 6) (v := ?vv18) rfl (by kernel_rfl) (by kernel_rfl) (by kernel_rfl) (fun _ _ _ h => h) (Or.inl ⟨by rfl, ?hy18⟩) (by assumption) ?rest18
        case hy18 => (intro w hSw; (try dsimp only at hSw); go_simp; first | done | with_reducible rfl)
        try simp only [Act.put, List.getElem_toArray, List.getElem_cons_succ, List.getElem_cons_zero, List.setIfInBounds_toArray, List.set_cons_zero, List.set_cons_succ]
        refine wpAnyH_take (i := 7) (v := undef) rfl (by kernel_rfl) (by kernel_rfl) (by kernel_rfl) (fun _ _ _ h => h) (Or.inr ⟨by rfl, rfl⟩) (by assumption) ?_
        try simp only [Act.put, List.getElem_toArray, List.getElem_cons_succ, List.getElem_cons_zero, List.setIfInBounds_toArray, List.set_cons_zero, List.set_cons_succ]
        refine wpAnyH_take (i := 8) (v := undef) rfl (by kernel_rfl) (by kernel_rfl) (by kernel_rfl) (fun _ _ _ h => h) (Or.inr ⟨by rfl, rfl⟩) (by assumption) ?_
        try simp only [Act.put, List.getElem_toArray, List.getElem_cons_succ, List.getElem_cons_zero, List.setIfInBounds_toArray, List.set_cons_zero, List.set_cons_succ]
        refine wpAnyH_take (i := 9) (v := undef) rfl (by kernel_rfl) (by kernel_rfl) (by kernel_rfl) (fun _ _ _ h => h) (Or.inr ⟨by rfl, rfl⟩) (by assumption) ?_
        try simp only [Act.put, List.getElem_toArray, List.getElem_cons_succ, List.getElem_cons_zero, List.setIfInBounds_toArray, List.set_cons_zero, List.set_cons_succ]
        refine wpAnyH_take (i := 10) (v := undef) rfl (by kernel_rfl) (by kernel_rfl) (by kernel_rfl) (fun _ _ _ h => h) (Or.inr ⟨by rfl, rfl⟩) (by assumption) ?_
        try simp only [Act.put, List.getElem_toArray, List.getElem_cons_succ, List.getElem_cons_zero, List.setIfInBounds_toArray, List.set_cons_zero, List.set_cons_succ]
        refine wpAnyH_take (i := 11) (v := undef) rfl (by kernel_rfl) (by kernel_rfl) (by kernel_rfl) (fun _ _ _ h => h) (Or.inr ⟨by rfl, rfl⟩) (by assumption) ?_
        try simp only [Act.put, List.getElem_toArray, List.getElem_cons_succ, List.getElem_cons_zero, List.setIfInBounds_toArray, List.set_cons_zero, List.set_cons_succ]
        refine wpAnyH_take (i := 12) (v := undef) rfl (by kernel_rfl) (by kernel_rfl) (by kernel_rfl) (fun _ _ _ h => h) (Or.inr ⟨by rfl, rfl⟩) (by assumption) ?_
        try simp only [Act.put, List.getElem_toArray, List.getElem_cons_succ, List.getElem_cons_zero, List.setIfInBounds_toArray, List.set_cons_zero, List.set_cons_succ]
        refine wpAnyH_take (i := 13) (v := undef) rfl (by kernel_rfl) (by kernel_rfl) (by kernel_rfl) (fun _ _ _ h => h) (Or.inr ⟨by rfl, rfl⟩) (by assumption) ?_
        try simp only [Act.put, List.getElem_toArray, List.getElem_cons_succ, List.getElem_cons_zero, List.setIfInBounds_toArray, List.set_cons_zero, List.set_cons_succ]
        refine wpAnyH_take (i := 14) (v := undef) rfl (by kernel_rfl) (by kernel_rfl) (by kernel_rfl) (fun _ _ _ h => h) (Or.inr ⟨by rfl, rfl⟩) (by assumption) ?_
        try simp only [Act.put, List.getElem_toArray, List.getElem_cons_succ, List.getElem_cons_zero, List.setIfInBounds_toArray, List.set_cons_zero, List.set_cons_succ]
        refine wpAnyH_take (i := 15) (v := undef) rfl (by kernel_rfl) (by kernel_rfl) (by kernel_rfl) (fun _ _ _ h => h) (Or.inr ⟨by rfl, rfl⟩) (by assumption) ?_
        try simp only [Act.put, List.getElem_toArray, List.getElem_cons_succ, List.getElem_cons_zero, List.setIfInBounds_toArray, List.set_cons_zero, List.set_cons_succ]
        refine wpAnyH_take (i := 16) (v := undef) rfl (by kernel_rfl) (by kernel_rfl) (by kernel_rfl) (fun _ _ _ h => h) (Or.inr ⟨by rfl, rfl⟩) (by assumption) ?_
        try simp only [Act.put, List.getElem_toArray, List.getElem_cons_succ, List.getElem_cons_zero, List.setIfInBounds_toArray, List.set_cons_zero, List.set_cons_succ]
        refine wpAnyH_take (i := 17) (v := undef) rfl (by kernel_rfl) (by kernel_rfl) (by kernel_rfl) (fun _ _ _ h => h) (Or.inr ⟨by rfl, rfl⟩) (by assumption) ?_
        try simp only [Act.put, List.getElem_toArray, List.getElem_cons_succ, List.getElem_cons_zero, List.setIfInBounds_toArray, List.set_cons_zero, List.set_cons_succ]
        refine wpAnyH_take (i := 18) (v := undef) rfl (by kernel_rfl) (by kernel_rfl) (by kernel_rfl) (fun _ _ _ h => h) (Or.inr ⟨by rfl, rfl⟩) (by assumption) ?_
        try simp only [Act.put, List.getElem_toArray, List.getElem_cons_succ, List.getElem_cons_zero, List.setIfInBounds_toArray, List.set_cons_zero, List.set_cons_succ]
        refine wpAnyH_take (i := 19) (v := undef) rfl (by kernel_rfl) (by kernel_rfl) (by kernel_rfl) (fun _ _ _ h => h) (Or.inr ⟨by rfl, rfl⟩) (by assumption) ?_
        try simp only [Act.put, List.getElem_toArray, List.getElem_cons_succ, List.getElem_cons_zero, List.setIfInBounds_toArray, List.set_cons_zero, List.set_cons_succ]
        refine wpAnyH_take (i := 20) (v := undef) rfl (by kernel_rfl) (by kernel_rfl) (by kernel_rfl) (fun _ _ _ h => h) (Or.inr ⟨by rfl, rfl⟩) (by assumption) ?_
        try simp only [Act.put, List.getElem_toArray, List.getElem_cons_succ, List.getElem_cons_zero, List.setIfInBounds_toArray, List.set_cons_zero, List.set_cons_succ]
        refine wpAnyH_take (i := 21) (v := undef) rfl (by kernel_rfl) (by kernel_rfl) (by kernel_rfl) (fun _ _ _ h => h) (Or.inr ⟨by rfl, rfl⟩) (by assumption) ?_
        try simp only [Act.put, List.getElem_toArray, List.getElem_cons_succ, List.getElem_cons_zero, List.setIfInBounds_toArray, List.set_cons_zero, List.set_cons_succ]
        refine wpAnyH_take (i := 22) (v := undef) rfl (by kernel_rfl) (by kernel_rfl) (by kernel_rfl) (fun _ _ _ h => h) (Or.inr ⟨by rfl, rfl⟩) (by assumption) ?_
        try simp only [Act.put, List.getElem_toArray, List.getElem_cons_succ, List.getElem_cons_zero, List.setIfInBounds_toArray, List.set_cons_zero, List.set_cons_succ]
        refine wpAnyH_take (i := 23) (v := ?vv19) rfl (by kernel_rfl) (by kernel_rfl) (by kernel_rfl) (fun _ _ _ h => h) (Or.inl ⟨by rfl, ?hy19⟩) (by assumption) ?rest19
        case hy19 => (intro w hSw; (try dsimp only at hSw); go_simp; first | done | with_reducible rfl)
        try simp only [Act.put, List.getElem_toArray, List.getElem_cons_succ, List.getElem_cons_zero, List.setIfInBounds_toArray, List.set_cons_zero, List.set_cons_succ]
        refine wpAnyH_done (by kernel_rfl) ?_ _
        clear hHeld ZC
        go_wp2
        go_ret
        exact ⟨rfl, B5.out⟩
    · have hke : k = q.length := by omega
      have hd : decide ((k : Int) < (q.length : Int)) = false := decide_eq_false (by omega)
      have hd2 : decide (k < q.length) = false := decide_eq_false hlt
      have HS : Hid (R = true) := by
        show _ = _
        rw [HR.out, List.drop_eq_nil_of_le (by rw [vqL_len]; omega)]; rfl
      have hrr : RR = decide (q.length ≤ 32) := by rw [HRC.out, HS.out]; simp
      by_cases h3 : q.length ≤ 32
      · have h4 : decide ((q.length : Int) ≤ 32) = true := decide_eq_true (by omega)
        have h5 : decide (q.length ≤ 32) = true := decide_eq_true h3
        rw [h5] at hrr
        subst hrr
        clear HC HR HS HL CK0 hke hlt hk h3 HRC
        go_wp2
        go_ret
        exact ⟨rfl, HB.out⟩
      · have h4 : decide ((q.length : Int) ≤ 32) = false := decide_eq_false (by omega)
        have h5 : decide (q.length ≤ 32) = false := decide_eq_false h3
        rw [h5] at hrr
        subst hrr
        clear HC HR HS HL CK0 hke hlt hk h3 HRC
        go_wp2
        go_ret
        exact ⟨rfl, HB.out⟩
end Go.Proofs.Ytbiapepalkdkdaa
