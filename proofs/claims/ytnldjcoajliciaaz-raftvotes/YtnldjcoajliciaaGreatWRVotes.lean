/- The walk of RaftVotes. -/
import Derived.Test.YtnldjcoajliciaaGreatWRV0
import Derived.Deep.CutRange
namespace Go.Proofs.YtnldjcoajliciaaGreat
open Go.RowKit Go.Maps
set_option linter.unusedVariables false
set_option linter.unusedSimpArgs false

set_option pp.deepTerms true
set_option pp.maxSteps 1000000
theorem wrKV (z : Int) (h0 : -4000000 ≤ z) (h1 : z ≤ 4000000) : IntKind.i64.wrap z = z ∧ wrap64 z = z := ⟨by rw [IntKind.wrap_i64]; omega, IntWalk.wrap64_in _ (by omega)⟩
theorem chk7 (ix st : Int) (h0 : 0 ≤ ix ∧ ix ≤ 1000) (h1 : 0 ≤ st ∧ st ≤ 1000) : chkS ⟨ix, st, L7, ⟨#[]⟩⟩ = 0 := by
  have e : areM L7 = true := by kernel_rfl
  unfold chkS wthn
  simp only
  rw [e, decide_eq_true (show 0 ≤ ix by omega), decide_eq_true (show ix ≤ 1099511627776 by omega), decide_eq_true (show 0 ≤ st by omega), decide_eq_true (show st ≤ 1099511627776 by omega)]
  rfl
set_option maxRecDepth 100000 in
set_option maxHeartbeats 16000000 in
theorem raftVotes_walk (l0 l1 : Int) (v1 : Value) (qs : List (Int × Int × Int)) (v2 : Value) (bs : List Bool) (w : World) (hv : A3I w v1 qs) (hu : BlI w v2 bs) : Calls Tryz.prog 3 #[.agg #[.int .i64 l0, .int .i64 l1], v1, v2] w fun e w' => e = .returned (.bool true) ∧ Below w.heap.size w w' := by
  obtain ⟨ada, capa, rfl, hca⟩ := hv.form
  obtain ⟨adb, capb, rfl, hcb⟩ := hu.form
  have HCA := hid hca
  have HCB := hid hcb
  clear hv hu hca hcb
  have AW := hid (fun W => awake10 W)
  obtain ⟨X, hX⟩ : ∃ X, X = w.alloc (.cells #[.int .i64 l0, .int .i64 l1] 22) := ⟨_, rfl⟩
  have RX : Hid (RowIs X w.heap.size [.int .i64 l0, .int .i64 l1] 22) := by show RowIs _ _ _ _; rw [hX]; exact srow w _ _
  have BX : Hid (Below w.heap.size w X) := by show Below _ _ _; rw [hX]; exact below_al (Below.refl _ _) _
  have HX := hid hX
  clear hX
  have AM0 : Hid (∀ W, Below X.heap.size X W → Calls Tryz.prog 5 #[.int .i64 l0, .int .i64 9] W fun e w' => e = .returned (.int .i64 (amg l0 9)) ∧ Below W.heap.size W w') := fun W _ => among_any l0 9 (by omega) (by omega) W
  have AM1 : Hid (∀ W, Below X.heap.size X W → Calls Tryz.prog 5 #[.int .i64 l1, .int .i64 9] W fun e w' => e = .returned (.int .i64 (amg l1 9)) ∧ Below W.heap.size W w') := fun W _ => among_any l1 9 (by omega) (by omega) W
  have A6 : Hid (∀ x W, Calls Tryz.prog 5 #[.int .i64 x, .int .i64 6] W fun e w' => e = .returned (.int .i64 (amg x 6)) ∧ Below W.heap.size W w') := fun x W => among_any x 6 (by omega) (by omega) W
  have A4 : Hid (∀ x W, Calls Tryz.prog 5 #[.int .i64 x, .int .i64 4] W fun e w' => e = .returned (.int .i64 (amg x 4)) ∧ Below W.heap.size W w') := fun x W => among_any x 4 (by omega) (by omega) W
  have A12 : Hid (∀ x W, Calls Tryz.prog 5 #[.int .i64 x, .int .i64 12] W fun e w' => e = .returned (.int .i64 (amg x 12)) ∧ Below W.heap.size W w') := fun x W => among_any x 12 (by omega) (by omega) W
  have HI : Hid (0 ≤ amg l0 9 ∧ amg l0 9 < 9) := ⟨(amg_ar l0 9 (by omega) (by omega)).2.2.2.1, (amg_ar l0 9 (by omega) (by omega)).2.2.2.2⟩
  have HJ : Hid (0 ≤ amg l1 9 ∧ amg l1 9 < 9) := ⟨(amg_ar l1 9 (by omega) (by omega)).2.2.2.1, (amg_ar l1 9 (by omega) (by omega)).2.2.2.2⟩
  generalize amg l0 9 = p0 at *
  generalize amg l1 9 = p1 at *
  have q0 : wrap64 (1 + p0) = 1 + p0 := IntWalk.wrap64_in _ (by have := HI.out; omega)
  have q1 : wrap64 (1 + p1) = 1 + p1 := IntWalk.wrap64_in _ (by have := HJ.out; omega)
  have q0b : IntKind.i64.wrap (1 + p0) = 1 + p0 := (wrKV _ (by have := HI.out; omega) (by have := HI.out; omega)).1
  have q1b : IntKind.i64.wrap (1 + p1) = 1 + p1 := (wrKV _ (by have := HJ.out; omega) (by have := HJ.out; omega)).1
  have ZC : Hid (∀ W, Below X.heap.size X W → W.cell? ⟨w.heap.size, 0, none⟩ = some (.int .i64 l0) ∧ W.cell? ⟨w.heap.size, 1, none⟩ = some (.int .i64 l1)) := fun W b => ⟨(RX.out.keep (b.keep (fun _ => False)) (fun h => h)).cellAt rfl, (RX.out.keep (b.keep (fun _ => False)) (fun h => h)).cellAt rfl⟩
  have D0 := hid (Below.refl X.heap.size X).drew
  clear RX
  go_enter Tryz.func3, Tryz.ntmps3
  go_wp2
  rw [← HX.out]
  clear HX
  refine wp_region_held_drew (S := fun W => W.cell? ⟨w.heap.size, 0, none⟩ = some (.int .i64 l0) ∧ W.cell? ⟨w.heap.size, 1, none⟩ = some (.int .i64 l1)) (by kernel_rfl) (ZC.out _ D0.out) (fun hHeld => ?_)
  refine wpAnyH_take (i := 0) (v := ?vv1) rfl (by kernel_rfl) (by kernel_rfl) (by kernel_rfl) (fun _ _ _ h => h) (Or.inl ⟨by rfl, ?hy1⟩) (by assumption) ?rest1
  case hy1 => (intro w hSw; (try dsimp only at hSw); go_simp; first | done | with_reducible rfl)
  try simp only [Act.put, List.getElem_toArray, List.getElem_cons_succ, List.getElem_cons_zero, List.setIfInBounds_toArray, List.set_cons_zero, List.set_cons_succ]
  refine wpAnyH_take (i := 1) (v := ?vv2) rfl (by kernel_rfl) (by kernel_rfl) (by kernel_rfl) (fun _ _ _ h => h) (Or.inl ⟨by rfl, ?hy2⟩) (by assumption) ?rest2
  case hy2 => (intro w hSw; (try dsimp only at hSw); go_simp; first | done | with_reducible rfl)
  try simp only [Act.put, List.getElem_toArray, List.getElem_cons_succ, List.getElem_cons_zero, List.setIfInBounds_toArray, List.set_cons_zero, List.set_cons_succ]
  refine wpAnyH_take (i := 4) (v := ?vv3) rfl (by kernel_rfl) (by kernel_rfl) (by kernel_rfl) (fun _ _ _ h => h) (Or.inl ⟨by rfl, ?hy3⟩) (by assumption) ?rest3
  case hy3 => (intro w hSw; (try dsimp only at hSw); go_simp; first | done | with_reducible rfl)
  try simp only [Act.put, List.getElem_toArray, List.getElem_cons_succ, List.getElem_cons_zero, List.setIfInBounds_toArray, List.set_cons_zero, List.set_cons_succ]
  refine wpAnyH_take (i := 5) (v := ?vv4) rfl (by kernel_rfl) (by kernel_rfl) (by kernel_rfl) (fun _ _ _ h => h) (Or.inl ⟨by rfl, ?hy4⟩) (by assumption) ?rest4
  case hy4 => (intro w hSw; (try dsimp only at hSw); go_simp; first | done | with_reducible rfl)
  try simp only [Act.put, List.getElem_toArray, List.getElem_cons_succ, List.getElem_cons_zero, List.setIfInBounds_toArray, List.set_cons_zero, List.set_cons_succ]
  refine wpAnyH_ready (rs := [2]) (by kernel_rfl) (by simp) ?_
  refine AllReadyH.cons rfl (fun K hK => ?_) AllReadyH.nil
  go_simp
  refine (AM0.out _ D0.out).mono ?_
  rintro e wq1 ⟨rfl, bq⟩
  have BQ1 := hid (below_on D0.out bq)
  clear bq hHeld
  go_wp2_with fail
  refine hK.out _ _ (ZC.out _ BQ1.out) (fun hHeld => ?_)
  clear hK K
  try simp only [Act.put, List.getElem_toArray, List.getElem_cons_succ, List.getElem_cons_zero, List.setIfInBounds_toArray, List.set_cons_zero, List.set_cons_succ]
  refine wpAnyH_take (i := 3) (v := ?vv5) rfl (by kernel_rfl) (by kernel_rfl) (by kernel_rfl) (fun _ _ _ h => h) (Or.inl ⟨by rfl, ?hy5⟩) (by assumption) ?rest5
  case hy5 => (intro w hSw; (try dsimp only at hSw); go_simp; first | done | with_reducible rfl)
  try simp only [Act.put, List.getElem_toArray, List.getElem_cons_succ, List.getElem_cons_zero, List.setIfInBounds_toArray, List.set_cons_zero, List.set_cons_succ]
  refine wpAnyH_ready (rs := [6]) (by kernel_rfl) (by simp) ?_
  refine AllReadyH.cons rfl (fun K hK => ?_) AllReadyH.nil
  go_simp
  refine (AM1.out _ BQ1.out).mono ?_
  rintro e wq2 ⟨rfl, bq⟩
  have BQ2 := hid (below_on BQ1.out bq)
  clear bq hHeld
  go_wp2_with fail
  refine hK.out _ _ (ZC.out _ BQ2.out) (fun hHeld => ?_)
  clear hK K
  try simp only [Act.put, List.getElem_toArray, List.getElem_cons_succ, List.getElem_cons_zero, List.setIfInBounds_toArray, List.set_cons_zero, List.set_cons_succ]
  refine wpAnyH_take (i := 7) (v := ?vv6) rfl (by kernel_rfl) (by kernel_rfl) (by kernel_rfl) (fun _ _ _ h => h) (Or.inl ⟨by rfl, ?hy6⟩) (by assumption) ?rest6
  case hy6 => (intro w hSw; (try dsimp only at hSw); go_simp; first | done | with_reducible rfl)
  try simp only [Act.put, List.getElem_toArray, List.getElem_cons_succ, List.getElem_cons_zero, List.setIfInBounds_toArray, List.set_cons_zero, List.set_cons_succ]
  refine wpAnyH_take (i := 8) (v := ?vv7) rfl (by kernel_rfl) (by kernel_rfl) (by kernel_rfl) (fun _ _ _ h => h) (Or.inl ⟨by rfl, ?hy7⟩) (by assumption) ?rest7
  case hy7 => (intro w hSw; (try dsimp only at hSw); go_simp; first | done | with_reducible rfl)
  try simp only [Act.put, List.getElem_toArray, List.getElem_cons_succ, List.getElem_cons_zero, List.setIfInBounds_toArray, List.set_cons_zero, List.set_cons_succ]
  refine wpAnyH_take (i := 9) (v := ?vv8) rfl (by kernel_rfl) (by kernel_rfl) (by kernel_rfl) (fun _ _ _ h => h) (Or.inl ⟨by rfl, ?hy8⟩) (by assumption) ?rest8
  case hy8 => (intro w hSw; (try dsimp only at hSw); go_simp; first | done | with_reducible rfl)
  try simp only [Act.put, List.getElem_toArray, List.getElem_cons_succ, List.getElem_cons_zero, List.setIfInBounds_toArray, List.set_cons_zero, List.set_cons_succ]
  refine wpAnyH_done (by kernel_rfl) ?_ _
  have B1 := hid (below_on BX.out BQ2.out)
  clear ZC AM0 AM1 D0 hHeld BX BQ2
  have H0 : Hid (0 ≤ 1 + p0 ∧ 1 + p0 ≤ 1000) := ⟨by have := HI.out; omega, by have := HI.out; omega⟩
  have H1 : Hid (1 ≤ 1 + p1 ∧ 1 + p1 ≤ 9) := ⟨by have := HJ.out; omega, by have := HJ.out; omega⟩
  clear HI HJ
  generalize 1 + p0 = ix at *
  generalize 1 + p1 = st at *
  generalize wq2 = w1 at *
  obtain ⟨sa, hsa⟩ : ∃ sa, sa = w1.heap.size := ⟨_, rfl⟩
  obtain ⟨Y, hY⟩ : ∃ Y, Y = (w1.alloc (.cells #[.int .i64 0, .int .i64 1, .int .i64 2, .int .i64 3, .int .i64 4, .int .i64 5, .int .i64 6] 3)).alloc (.cells #[.int .i64 ix, .int .i64 st, .slice (some ⟨w1.heap.size, 0, none⟩) 7 7, .string ⟨#[]⟩] 28) := ⟨_, rfl⟩
  obtain ⟨sb, hsb⟩ : ∃ sb, sb = w1.heap.size + 1 := ⟨_, rfl⟩
  have BY : Hid (Below w.heap.size w Y) := by show Below _ _ _; rw [hY]; exact below_al (below_al B1.out _) _
  have RY : Hid (RowIs Y sb [.int .i64 ix, .int .i64 st, .slice (some ⟨sa, 0, none⟩) 7 7, .string ⟨#[]⟩] 28) := by
    show RowIs _ _ _ _
    have r := srow (w1.alloc (.cells #[.int .i64 0, .int .i64 1, .int .i64 2, .int .i64 3, .int .i64 4, .int .i64 5, .int .i64 6] 3)) [.int .i64 ix, .int .i64 st, .slice (some ⟨w1.heap.size, 0, none⟩) 7 7, .string ⟨#[]⟩] 28
    rw [World.size_alloc] at r
    rw [hY, hsb, hsa]; exact r
  have IY : Hid (IntsI Y (.slice (some ⟨sa, 0, none⟩) 7 7) L7) := by
    show IntsI _ _ _
    have r := row_old (srow w1 (isC L7) 3) (.cells #[.int .i64 ix, .int .i64 st, .slice (some ⟨w1.heap.size, 0, none⟩) 7 7, .string ⟨#[]⟩] 28)
    rw [hY, hsa]; exact row_ints r
  have HY := hid hY
  have HSA := hid hsa
  have HSB := hid hsb
  clear hY hsa hsb B1
  have NW : Hid (Calls Tryz.prog 6 #[.int .i64 0, .int .i64 st, .int .i64 (-1), .agg #[.int .i64 ix, .int .i64 st, .slice (some ⟨sa, 0, none⟩) 7 7, .string ⟨#[]⟩], .slice none 0 0, .int .i64 5] Y fun e w' => ∃ nb n, e = .returned (.tuple #[.pointer (some ⟨nb, 0, none⟩), .int .i64 0]) ∧ NdI w' Y.heap.size nb n L7 [] ∧ Vd n st (-1) ix st ∧ Below Y.heap.size Y w') :=
    (nnew_ok 0 st (-1) _ ⟨ix, st, L7, ⟨#[]⟩⟩ (.slice none 0 0) [] 5 Y IY.out (mgE_ents Y) (by simp) (by simp) (by decide) (Int.le_refl st) (by have := H1.out; show st ≤ _; omega) (.inl rfl) (chk7 ix st H0.out (by have := H1.out; omega)) rfl).mono fun e w' ⟨nb, bm, lg, ga, he, hn, hb⟩ => ⟨nb, _, he, hn, Vd.new st (-1) ix st L7 5 bm lg ga, hb⟩
  clear IY
  have y0 := RY.out.cellAt (o := 0) rfl
  have y1 := RY.out.cellAt (o := 1) rfl
  have y2 := RY.out.cellAt (o := 2) rfl
  have y3 := RY.out.cellAt (o := 3) rfl
  go_wp2_with fail
  rw [← HY.out, ← HSB.out, ← HSA.out]
  refine NW.out.mono ?_
  rintro e w2 ⟨nb, n, rfl, hn, vd, b2⟩
  have C2 := hid b2
  have HN := hid hn
  have VD := hid vd
  clear NW hn vd b2 y0 y1 y2 y3 HY HSB HSA
  go_wp2_with fail
  refine (AW.out _).mono ?_
  rintro e w3 ⟨rfl, b3⟩
  have C3 := hid (below_on C2.out b3)
  have HN3 := hid (HN.out.next b3)
  clear AW b3 C2 HN
  have ZS : Hid (∀ W, Below Y.heap.size Y W → W.cell? ⟨sb, 0, none⟩ = some (.int .i64 ix) ∧ W.cell? ⟨sb, 1, none⟩ = some (.int .i64 st)) := fun W b => ⟨(RY.out.keep (b.keep (fun _ => False)) (fun h => h)).cellAt rfl, (RY.out.keep (b.keep (fun _ => False)) (fun h => h)).cellAt rfl⟩
  clear RY
  go_wp2
  go_loopg [8, 10, 12, 13] qs.length (fun gk tv pv vv iv wr => ∃ (k : Nat) (T V : Int) (nb : Nat) (n : Nd), k ≤ qs.length ∧ gk = qs.length - k ∧ tv = .int .i64 T ∧ pv = .pointer (some ⟨nb, 0, none⟩) ∧ vv = .int .i64 V ∧ iv = .int .i64 (k : Int) ∧ Hid (NdI wr Y.heap.size nb n L7 [] ∧ Vd n T V ix st) ∧ Hid (st ≤ T ∧ T ≤ st + 3 * (k : Int) ∧ k ≤ 30 ∧ (V = -1 ∨ ndOk V = true)) ∧ Hid (Below Y.heap.size Y wr))
  case atStart => exact ⟨0, st, -1, nb, n, Nat.zero_le _, rfl, rfl, rfl, rfl, rfl, ⟨HN3.out, VD.out⟩, ⟨Int.le_refl _, by omega, by omega, .inl rfl⟩, C3⟩
  case round =>
    clear HN3 VD C3
    obtain ⟨k, T, V, nb, n, hk, hgk, rfl, rfl, rfl, rfl, HN, HT, HB⟩ := hrel
    by_cases hlt : k < qs.length
    case neg =>
      have hd1 : decide ((k : Int) < (qs.length : Int)) = false := decide_eq_false (by omega)
      have hd2 : decide (k < qs.length) = false := decide_eq_false hlt
      have BE := hid (below_on BY.out HB.out)
      clear HCA HCB HN HT HB hk hgk hlt A6 A4 A12 ZS BY H0 H1
      go_wp2
      go_ret
      exact ⟨rfl, BE.out⟩
    by_cases h30 : k < 30
    case neg =>
      have hd1 : decide ((k : Int) < (qs.length : Int)) = true := decide_eq_true (by omega)
      have hd2 : decide (k < qs.length) = true := decide_eq_true hlt
      have hd3 : decide ((k : Int) < 30) = false := decide_eq_false (by omega)
      have hd4 : decide (k < 30) = false := decide_eq_false h30
      have BE := hid (below_on BY.out HB.out)
      clear HCA HCB HN HT HB hk hgk hlt h30 A6 A4 A12 ZS BY H0 H1
      go_wp2
      go_ret
      exact ⟨rfl, BE.out⟩
    have hd1 : decide ((k : Int) < (qs.length : Int)) = true := decide_eq_true (by omega)
    have hd2 : decide (k < qs.length) = true := decide_eq_true hlt
    have hd3 : decide ((k : Int) < 30) = true := decide_eq_true (by omega)
    have hd4 : decide (k < 30) = true := decide_eq_true h30
    have hk1 : (k : Int) < (qs.length : Int) := by omega
    have hk0 : (0 : Int) ≤ (k : Int) := by omega
    have hwk : wrap64 ((k : Int) + 1) = ((k + 1 : Nat) : Int) := by rw [IntWalk.wrap64_in _ (by omega)]; omega
    have H30 := hid h30
    have HLT := hid hlt
    have HGK := hid hgk
    have HM5 : Hid (qs.length - (k + 1) < qs.length - k) := Nat.sub_lt_sub_left hlt (Nat.lt_succ_self k)
    have BW := hid (below_on BY.out HB.out)
    obtain ⟨b, off, hadr, hb, c0, c1, c2⟩ := HCA.out k hlt
    have ZA : Hid (∀ W, Below wr.heap.size wr W → W.cell? ⟨b, off + k * 3, none⟩ = some (.int .i64 qs[k].1) ∧ W.cell? ⟨b, off + k * 3 + 1, none⟩ = some (.int .i64 qs[k].2.1) ∧ W.cell? ⟨b, off + k * 3 + 2, none⟩ = some (.int .i64 qs[k].2.2)) := fun W bb => by
      have q := below_on BW.out bb
      exact ⟨(q.cell (p := ⟨b, off + k * 3, none⟩) hb).trans c0, (q.cell (p := ⟨b, off + k * 3 + 1, none⟩) hb).trans c1, (q.cell (p := ⟨b, off + k * 3 + 2, none⟩) hb).trans c2⟩
    clear hk hgk hb c0 c1 c2 h30 HCA
    generalize qs[k] = x at *
    obtain ⟨a, c, d⟩ := x
    simp only at *
    subst hadr
    clear hlt
    have F6 : Hid (0 ≤ amg a 6 ∧ amg a 6 < 6) := ⟨(amg_ar a 6 (by omega) (by omega)).2.2.2.1, (amg_ar a 6 (by omega) (by omega)).2.2.2.2⟩
    have F4 : Hid (0 ≤ amg c 4 ∧ amg c 4 < 4) := ⟨(amg_ar c 4 (by omega) (by omega)).2.2.2.1, (amg_ar c 4 (by omega) (by omega)).2.2.2.2⟩
    have F12 : Hid (0 ≤ amg d 12 ∧ amg d 12 < 12) := ⟨(amg_ar d 12 (by omega) (by omega)).2.2.2.1, (amg_ar d 12 (by omega) (by omega)).2.2.2.2⟩
    have AMA : Hid (∀ W, Below wr.heap.size wr W → Calls Tryz.prog 5 #[.int .i64 a, .int .i64 6] W fun e w' => e = .returned (.int .i64 (amg a 6)) ∧ Below W.heap.size W w') := fun W _ => A6.out a W
    have AMB : Hid (∀ W, Below wr.heap.size wr W → Calls Tryz.prog 5 #[.int .i64 c, .int .i64 4] W fun e w' => e = .returned (.int .i64 (amg c 4)) ∧ Below W.heap.size W w') := fun W _ => A4.out c W
    have AMC : Hid (∀ W, Below wr.heap.size wr W → Calls Tryz.prog 5 #[.int .i64 d, .int .i64 12] W fun e w' => e = .returned (.int .i64 (amg d 12)) ∧ Below W.heap.size W w') := fun W _ => A12.out d W
    generalize amg a 6 = pa at *
    generalize amg c 4 = pc at *
    generalize amg d 12 = pd at *
    have u0 := wrKV (1 + pa) (by have := F6.out; omega) (by have := F6.out; omega)
    have u1 := wrKV (T + pc) (by have := F4.out; have := HT.out; have := H1.out; have := H30.out; omega) (by have := F4.out; have := HT.out; have := H1.out; have := H30.out; omega)
    have u2 := wrKV (1 + pd) (by have := F12.out; omega) (by have := F12.out; omega)
    obtain ⟨u0a, u0b⟩ := u0
    obtain ⟨u1a, u1b⟩ := u1
    obtain ⟨u2a, u2b⟩ := u2
    have D0 := hid (Below.refl wr.heap.size wr).drew
    clear A6 A4
    go_wp2
    refine wp_region_held_drew (S := fun W => W.cell? ⟨b, off + k * 3, none⟩ = some (.int .i64 a) ∧ W.cell? ⟨b, off + k * 3 + 1, none⟩ = some (.int .i64 c) ∧ W.cell? ⟨b, off + k * 3 + 2, none⟩ = some (.int .i64 d)) (by kernel_rfl) (ZA.out _ D0.out) (fun hHeld => ?_)
    refine wpAnyH_take (i := 0) (v := ?vv9) rfl (by kernel_rfl) (by kernel_rfl) (by kernel_rfl) (fun _ _ _ h => h) (Or.inl ⟨by rfl, ?hy9⟩) (by assumption) ?rest9
    case hy9 => (intro w hSw; (try dsimp only at hSw); go_simp; first | done | with_reducible rfl)
    try simp only [Act.put, List.getElem_toArray, List.getElem_cons_succ, List.getElem_cons_zero, List.setIfInBounds_toArray, List.set_cons_zero, List.set_cons_succ]
    refine wpAnyH_take (i := 1) (v := ?vv10) rfl (by kernel_rfl) (by kernel_rfl) (by kernel_rfl) (fun _ _ _ h => h) (Or.inl ⟨by rfl, ?hy10⟩) (by assumption) ?rest10
    case hy10 => (intro w hSw; (try dsimp only at hSw); go_simp; first | done | with_reducible rfl)
    try simp only [Act.put, List.getElem_toArray, List.getElem_cons_succ, List.getElem_cons_zero, List.setIfInBounds_toArray, List.set_cons_zero, List.set_cons_succ]
    refine wpAnyH_take (i := 2) (v := ?vv11) rfl (by kernel_rfl) (by kernel_rfl) (by kernel_rfl) (fun _ _ _ h => h) (Or.inl ⟨by rfl, ?hy11⟩) (by assumption) ?rest11
    case hy11 => (intro w hSw; (try dsimp only at hSw); go_simp; first | done | with_reducible rfl)
    try simp only [Act.put, List.getElem_toArray, List.getElem_cons_succ, List.getElem_cons_zero, List.setIfInBounds_toArray, List.set_cons_zero, List.set_cons_succ]
    refine wpAnyH_take (i := 3) (v := ?vv12) rfl (by kernel_rfl) (by kernel_rfl) (by kernel_rfl) (fun _ _ _ h => h) (Or.inl ⟨by rfl, ?hy12⟩) (by assumption) ?rest12
    case hy12 => (intro w hSw; (try dsimp only at hSw); go_simp; first | done | with_reducible rfl)
    try simp only [Act.put, List.getElem_toArray, List.getElem_cons_succ, List.getElem_cons_zero, List.setIfInBounds_toArray, List.set_cons_zero, List.set_cons_succ]
    refine wpAnyH_take (i := 4) (v := ?vv13) rfl (by kernel_rfl) (by kernel_rfl) (by kernel_rfl) (fun _ _ _ h => h) (Or.inl ⟨by rfl, ?hy13⟩) (by assumption) ?rest13
    case hy13 => (intro w hSw; (try dsimp only at hSw); go_simp; first | done | with_reducible rfl)
    try simp only [Act.put, List.getElem_toArray, List.getElem_cons_succ, List.getElem_cons_zero, List.setIfInBounds_toArray, List.set_cons_zero, List.set_cons_succ]
    refine wpAnyH_take (i := 7) (v := ?vv14) rfl (by kernel_rfl) (by kernel_rfl) (by kernel_rfl) (fun _ _ _ h => h) (Or.inl ⟨by rfl, ?hy14⟩) (by assumption) ?rest14
    case hy14 => (intro w hSw; (try dsimp only at hSw); go_simp; first | done | with_reducible rfl)
    try simp only [Act.put, List.getElem_toArray, List.getElem_cons_succ, List.getElem_cons_zero, List.setIfInBounds_toArray, List.set_cons_zero, List.set_cons_succ]
    refine wpAnyH_take (i := 8) (v := ?vv15) rfl (by kernel_rfl) (by kernel_rfl) (by kernel_rfl) (fun _ _ _ h => h) (Or.inl ⟨by rfl, ?hy15⟩) (by assumption) ?rest15
    case hy15 => (intro w hSw; (try dsimp only at hSw); go_simp; first | done | with_reducible rfl)
    try simp only [Act.put, List.getElem_toArray, List.getElem_cons_succ, List.getElem_cons_zero, List.setIfInBounds_toArray, List.set_cons_zero, List.set_cons_succ]
    refine wpAnyH_take (i := 9) (v := ?vv16) rfl (by kernel_rfl) (by kernel_rfl) (by kernel_rfl) (fun _ _ _ h => h) (Or.inl ⟨by rfl, ?hy16⟩) (by assumption) ?rest16
    case hy16 => (intro w hSw; (try dsimp only at hSw); go_simp; first | done | with_reducible rfl)
    try simp only [Act.put, List.getElem_toArray, List.getElem_cons_succ, List.getElem_cons_zero, List.setIfInBounds_toArray, List.set_cons_zero, List.set_cons_succ]
    refine wpAnyH_take (i := 10) (v := ?vv17) rfl (by kernel_rfl) (by kernel_rfl) (by kernel_rfl) (fun _ _ _ h => h) (Or.inl ⟨by rfl, ?hy17⟩) (by assumption) ?rest17
    case hy17 => (intro w hSw; (try dsimp only at hSw); go_simp; first | done | with_reducible rfl)
    try simp only [Act.put, List.getElem_toArray, List.getElem_cons_succ, List.getElem_cons_zero, List.setIfInBounds_toArray, List.set_cons_zero, List.set_cons_succ]
    refine wpAnyH_take (i := 11) (v := ?vv18) rfl (by kernel_rfl) (by kernel_rfl) (by kernel_rfl) (fun _ _ _ h => h) (Or.inl ⟨by rfl, ?hy18⟩) (by assumption) ?rest18
    case hy18 => (intro w hSw; (try dsimp only at hSw); go_simp; first | done | with_reducible rfl)
    try simp only [Act.put, List.getElem_toArray, List.getElem_cons_succ, List.getElem_cons_zero, List.setIfInBounds_toArray, List.set_cons_zero, List.set_cons_succ]
    refine wpAnyH_take (i := 12) (v := ?vv19) rfl (by kernel_rfl) (by kernel_rfl) (by kernel_rfl) (fun _ _ _ h => h) (Or.inl ⟨by rfl, ?hy19⟩) (by assumption) ?rest19
    case hy19 => (intro w hSw; (try dsimp only at hSw); go_simp; first | done | with_reducible rfl)
    try simp only [Act.put, List.getElem_toArray, List.getElem_cons_succ, List.getElem_cons_zero, List.setIfInBounds_toArray, List.set_cons_zero, List.set_cons_succ]
    refine wpAnyH_ready (rs := [5]) (by kernel_rfl) (by simp) ?_
    refine AllReadyH.cons rfl (fun K hK => ?_) AllReadyH.nil
    go_simp
    refine (AMA.out _ D0.out).mono ?_
    rintro e wq3 ⟨rfl, bq⟩
    have BQ3 := hid (below_on D0.out bq)
    clear bq hHeld
    go_wp2_with fail
    refine hK.out _ _ (ZA.out _ BQ3.out) (fun hHeld => ?_)
    clear hK K
    try simp only [Act.put, List.getElem_toArray, List.getElem_cons_succ, List.getElem_cons_zero, List.setIfInBounds_toArray, List.set_cons_zero, List.set_cons_succ]
    refine wpAnyH_take (i := 6) (v := ?vv20) rfl (by kernel_rfl) (by kernel_rfl) (by kernel_rfl) (fun _ _ _ h => h) (Or.inl ⟨by rfl, ?hy20⟩) (by assumption) ?rest20
    case hy20 => (intro w hSw; (try dsimp only at hSw); go_simp; first | done | with_reducible rfl)
    try simp only [Act.put, List.getElem_toArray, List.getElem_cons_succ, List.getElem_cons_zero, List.setIfInBounds_toArray, List.set_cons_zero, List.set_cons_succ]
    refine wpAnyH_ready (rs := [13]) (by kernel_rfl) (by simp) ?_
    refine AllReadyH.cons rfl (fun K hK => ?_) AllReadyH.nil
    go_simp
    refine (AMB.out _ BQ3.out).mono ?_
    rintro e wq4 ⟨rfl, bq⟩
    have BQ4 := hid (below_on BQ3.out bq)
    clear bq hHeld
    go_wp2_with fail
    refine hK.out _ _ (ZA.out _ BQ4.out) (fun hHeld => ?_)
    clear hK K
    try simp only [Act.put, List.getElem_toArray, List.getElem_cons_succ, List.getElem_cons_zero, List.setIfInBounds_toArray, List.set_cons_zero, List.set_cons_succ]
    refine wpAnyH_take (i := 14) (v := ?vv21) rfl (by kernel_rfl) (by kernel_rfl) (by kernel_rfl) (fun _ _ _ h => h) (Or.inl ⟨by rfl, ?hy21⟩) (by assumption) ?rest21
    case hy21 => (intro w hSw; (try dsimp only at hSw); go_simp; first | done | with_reducible rfl)
    try simp only [Act.put, List.getElem_toArray, List.getElem_cons_succ, List.getElem_cons_zero, List.setIfInBounds_toArray, List.set_cons_zero, List.set_cons_succ]
    refine wpAnyH_take (i := 15) (v := ?vv22) rfl (by kernel_rfl) (by kernel_rfl) (by kernel_rfl) (fun _ _ _ h => h) (Or.inl ⟨by rfl, ?hy22⟩) (by assumption) ?rest22
    case hy22 => (intro w hSw; (try dsimp only at hSw); go_simp; first | done | with_reducible rfl)
    try simp only [Act.put, List.getElem_toArray, List.getElem_cons_succ, List.getElem_cons_zero, List.setIfInBounds_toArray, List.set_cons_zero, List.set_cons_succ]
    refine wpAnyH_take (i := 16) (v := ?vv23) rfl (by kernel_rfl) (by kernel_rfl) (by kernel_rfl) (fun _ _ _ h => h) (Or.inl ⟨by rfl, ?hy23⟩) (by assumption) ?rest23
    case hy23 => (intro w hSw; (try dsimp only at hSw); go_simp; first | done | with_reducible rfl)
    try simp only [Act.put, List.getElem_toArray, List.getElem_cons_succ, List.getElem_cons_zero, List.setIfInBounds_toArray, List.set_cons_zero, List.set_cons_succ]
    refine wpAnyH_done (by kernel_rfl) ?_ _
    have ZA1 : Hid (∀ W, Below wq4.heap.size wq4 W → W.cell? ⟨b, off + k * 3, none⟩ = some (.int .i64 a) ∧ W.cell? ⟨b, off + k * 3 + 1, none⟩ = some (.int .i64 c) ∧ W.cell? ⟨b, off + k * 3 + 2, none⟩ = some (.int .i64 d)) := fun W bb => ZA.out W (below_on BQ4.out bb)
    have AMX : Hid (∀ W, Below wq4.heap.size wq4 W → Calls Tryz.prog 5 #[.int .i64 d, .int .i64 12] W fun e w' => e = .returned (.int .i64 pd) ∧ Below W.heap.size W w') := fun W bb => AMC.out W (below_on BQ4.out bb)
    have E0 := hid (Below.refl wq4.heap.size wq4).drew
    clear hHeld AMA AMB AMC D0 ZA
    go_wp2
    refine wp_region_held_drew (S := fun W => W.cell? ⟨b, off + k * 3, none⟩ = some (.int .i64 a) ∧ W.cell? ⟨b, off + k * 3 + 1, none⟩ = some (.int .i64 c) ∧ W.cell? ⟨b, off + k * 3 + 2, none⟩ = some (.int .i64 d)) (by kernel_rfl) (ZA1.out _ E0.out) (fun hHeld => ?_)
    refine wpAnyH_take (i := 0) (v := ?vv24) rfl (by kernel_rfl) (by kernel_rfl) (by kernel_rfl) (fun _ _ _ h => h) (Or.inl ⟨by rfl, ?hy24⟩) (by assumption) ?rest24
    case hy24 => (intro w hSw; (try dsimp only at hSw); go_simp; first | done | with_reducible rfl)
    try simp only [Act.put, List.getElem_toArray, List.getElem_cons_succ, List.getElem_cons_zero, List.setIfInBounds_toArray, List.set_cons_zero, List.set_cons_succ]
    refine wpAnyH_take (i := 1) (v := ?vv25) rfl (by kernel_rfl) (by kernel_rfl) (by kernel_rfl) (fun _ _ _ h => h) (Or.inl ⟨by rfl, ?hy25⟩) (by assumption) ?rest25
    case hy25 => (intro w hSw; (try dsimp only at hSw); go_simp; first | done | with_reducible rfl)
    try simp only [Act.put, List.getElem_toArray, List.getElem_cons_succ, List.getElem_cons_zero, List.setIfInBounds_toArray, List.set_cons_zero, List.set_cons_succ]
    refine wpAnyH_take (i := 2) (v := ?vv26) rfl (by kernel_rfl) (by kernel_rfl) (by kernel_rfl) (fun _ _ _ h => h) (Or.inl ⟨by rfl, ?hy26⟩) (by assumption) ?rest26
    case hy26 => (intro w hSw; (try dsimp only at hSw); go_simp; first | done | with_reducible rfl)
    try simp only [Act.put, List.getElem_toArray, List.getElem_cons_succ, List.getElem_cons_zero, List.setIfInBounds_toArray, List.set_cons_zero, List.set_cons_succ]
    refine wpAnyH_take (i := 3) (v := ?vv27) rfl (by kernel_rfl) (by kernel_rfl) (by kernel_rfl) (fun _ _ _ h => h) (Or.inl ⟨by rfl, ?hy27⟩) (by assumption) ?rest27
    case hy27 => (intro w hSw; (try dsimp only at hSw); go_simp; first | done | with_reducible rfl)
    try simp only [Act.put, List.getElem_toArray, List.getElem_cons_succ, List.getElem_cons_zero, List.setIfInBounds_toArray, List.set_cons_zero, List.set_cons_succ]
    refine wpAnyH_take (i := 4) (v := ?vv28) rfl (by kernel_rfl) (by kernel_rfl) (by kernel_rfl) (fun _ _ _ h => h) (Or.inl ⟨by rfl, ?hy28⟩) (by assumption) ?rest28
    case hy28 => (intro w hSw; (try dsimp only at hSw); go_simp; first | done | with_reducible rfl)
    try simp only [Act.put, List.getElem_toArray, List.getElem_cons_succ, List.getElem_cons_zero, List.setIfInBounds_toArray, List.set_cons_zero, List.set_cons_succ]
    refine wpAnyH_take (i := 7) (v := ?vv29) rfl (by kernel_rfl) (by kernel_rfl) (by kernel_rfl) (fun _ _ _ h => h) (Or.inl ⟨by rfl, ?hy29⟩) (by assumption) ?rest29
    case hy29 => (intro w hSw; (try dsimp only at hSw); go_simp; first | done | with_reducible rfl)
    try simp only [Act.put, List.getElem_toArray, List.getElem_cons_succ, List.getElem_cons_zero, List.setIfInBounds_toArray, List.set_cons_zero, List.set_cons_succ]
    refine wpAnyH_take (i := 8) (v := ?vv30) rfl (by kernel_rfl) (by kernel_rfl) (by kernel_rfl) (fun _ _ _ h => h) (Or.inl ⟨by rfl, ?hy30⟩) (by assumption) ?rest30
    case hy30 => (intro w hSw; (try dsimp only at hSw); go_simp; first | done | with_reducible rfl)
    try simp only [Act.put, List.getElem_toArray, List.getElem_cons_succ, List.getElem_cons_zero, List.setIfInBounds_toArray, List.set_cons_zero, List.set_cons_succ]
    refine wpAnyH_take (i := 9) (v := ?vv31) rfl (by kernel_rfl) (by kernel_rfl) (by kernel_rfl) (fun _ _ _ h => h) (Or.inl ⟨by rfl, ?hy31⟩) (by assumption) ?rest31
    case hy31 => (intro w hSw; (try dsimp only at hSw); go_simp; first | done | with_reducible rfl)
    try simp only [Act.put, List.getElem_toArray, List.getElem_cons_succ, List.getElem_cons_zero, List.setIfInBounds_toArray, List.set_cons_zero, List.set_cons_succ]
    refine wpAnyH_take (i := 10) (v := ?vv32) rfl (by kernel_rfl) (by kernel_rfl) (by kernel_rfl) (fun _ _ _ h => h) (Or.inl ⟨by rfl, ?hy32⟩) (by assumption) ?rest32
    case hy32 => (intro w hSw; (try dsimp only at hSw); go_simp; first | done | with_reducible rfl)
    try simp only [Act.put, List.getElem_toArray, List.getElem_cons_succ, List.getElem_cons_zero, List.setIfInBounds_toArray, List.set_cons_zero, List.set_cons_succ]
    refine wpAnyH_take (i := 11) (v := ?vv33) rfl (by kernel_rfl) (by kernel_rfl) (by kernel_rfl) (fun _ _ _ h => h) (Or.inl ⟨by rfl, ?hy33⟩) (by assumption) ?rest33
    case hy33 => (intro w hSw; (try dsimp only at hSw); go_simp; first | done | with_reducible rfl)
    try simp only [Act.put, List.getElem_toArray, List.getElem_cons_succ, List.getElem_cons_zero, List.setIfInBounds_toArray, List.set_cons_zero, List.set_cons_succ]
    refine wpAnyH_take (i := 12) (v := ?vv34) rfl (by kernel_rfl) (by kernel_rfl) (by kernel_rfl) (fun _ _ _ h => h) (Or.inl ⟨by rfl, ?hy34⟩) (by assumption) ?rest34
    case hy34 => (intro w hSw; (try dsimp only at hSw); go_simp; first | done | with_reducible rfl)
    try simp only [Act.put, List.getElem_toArray, List.getElem_cons_succ, List.getElem_cons_zero, List.setIfInBounds_toArray, List.set_cons_zero, List.set_cons_succ]
    refine wpAnyH_take (i := 15) (v := ?vv35) rfl (by kernel_rfl) (by kernel_rfl) (by kernel_rfl) (fun _ _ _ h => h) (Or.inl ⟨by rfl, ?hy35⟩) (by assumption) ?rest35
    case hy35 => (intro w hSw; (try dsimp only at hSw); go_simp; first | done | with_reducible rfl)
    try simp only [Act.put, List.getElem_toArray, List.getElem_cons_succ, List.getElem_cons_zero, List.setIfInBounds_toArray, List.set_cons_zero, List.set_cons_succ]
    refine wpAnyH_ready (rs := [5]) (by kernel_rfl) (by simp) ?_
    refine AllReadyH.cons rfl (fun K hK => ?_) AllReadyH.nil
    go_simp
    refine (AMX.out _ E0.out).mono ?_
    rintro e wq5 ⟨rfl, bq⟩
    have BQ5 := hid (below_on E0.out bq)
    clear bq hHeld
    go_wp2_with fail
    refine hK.out _ _ (ZA1.out _ BQ5.out) (fun hHeld => ?_)
    clear hK K
    try simp only [Act.put, List.getElem_toArray, List.getElem_cons_succ, List.getElem_cons_zero, List.setIfInBounds_toArray, List.set_cons_zero, List.set_cons_succ]
    refine wpAnyH_take (i := 6) (v := ?vv36) rfl (by kernel_rfl) (by kernel_rfl) (by kernel_rfl) (fun _ _ _ h => h) (Or.inl ⟨by rfl, ?hy36⟩) (by assumption) ?rest36
    case hy36 => (intro w hSw; (try dsimp only at hSw); go_simp; first | done | with_reducible rfl)
    try simp only [Act.put, List.getElem_toArray, List.getElem_cons_succ, List.getElem_cons_zero, List.setIfInBounds_toArray, List.set_cons_zero, List.set_cons_succ]
    refine wpAnyH_ready (rs := [13]) (by kernel_rfl) (by simp) ?_
    refine AllReadyH.cons rfl (fun K hK => ?_) AllReadyH.nil
    go_simp
    refine (A12.out _ _).mono ?_
    rintro e wz ⟨rfl, bz⟩
    have BZ := hid (below_on BQ5.out bz)
    clear bz hHeld
    generalize hps : amg _ 12 = ps
    have FS : Hid (0 ≤ ps ∧ ps < 12) := by rw [← hps]; exact ⟨(amg_ar _ 12 (by omega) (by omega)).2.2.2.1, (amg_ar _ 12 (by omega) (by omega)).2.2.2.2⟩
    clear hps
    obtain ⟨u3a, u3b⟩ := wrKV (1 + ps) (by have := FS.out; omega) (by have := FS.out; omega)
    go_wp2_with fail
    refine hK.out _ _ (ZA1.out _ BZ.out) (fun hHeld => ?_)
    clear hK K
    try simp only [Act.put, List.getElem_toArray, List.getElem_cons_succ, List.getElem_cons_zero, List.setIfInBounds_toArray, List.set_cons_zero, List.set_cons_succ]
    refine wpAnyH_take (i := 14) (v := ?vv37) rfl (by kernel_rfl) (by kernel_rfl) (by kernel_rfl) (fun _ _ _ h => h) (Or.inl ⟨by rfl, ?hy37⟩) (by assumption) ?rest37
    case hy37 => (intro w hSw; (try dsimp only at hSw); go_simp; first | done | with_reducible rfl)
    try simp only [Act.put, List.getElem_toArray, List.getElem_cons_succ, List.getElem_cons_zero, List.setIfInBounds_toArray, List.set_cons_zero, List.set_cons_succ]
    refine wpAnyH_take (i := 16) (v := ?vv38) rfl (by kernel_rfl) (by kernel_rfl) (by kernel_rfl) (fun _ _ _ h => h) (Or.inl ⟨by rfl, ?hy38⟩) (by assumption) ?rest38
    case hy38 => (intro w hSw; (try dsimp only at hSw); go_simp; first | done | with_reducible rfl)
    try simp only [Act.put, List.getElem_toArray, List.getElem_cons_succ, List.getElem_cons_zero, List.setIfInBounds_toArray, List.set_cons_zero, List.set_cons_succ]
    refine wpAnyH_take (i := 17) (v := ?vv39) rfl (by kernel_rfl) (by kernel_rfl) (by kernel_rfl) (fun _ _ _ h => h) (Or.inl ⟨by rfl, ?hy39⟩) (by assumption) ?rest39
    case hy39 => (intro w hSw; (try dsimp only at hSw); go_simp; first | done | with_reducible rfl)
    try simp only [Act.put, List.getElem_toArray, List.getElem_cons_succ, List.getElem_cons_zero, List.setIfInBounds_toArray, List.set_cons_zero, List.set_cons_succ]
    refine wpAnyH_take (i := 18) (v := ?vv40) rfl (by kernel_rfl) (by kernel_rfl) (by kernel_rfl) (fun _ _ _ h => h) (Or.inl ⟨by rfl, ?hy40⟩) (by assumption) ?rest40
    case hy40 => (intro w hSw; (try dsimp only at hSw); go_simp; first | done | with_reducible rfl)
    try simp only [Act.put, List.getElem_toArray, List.getElem_cons_succ, List.getElem_cons_zero, List.setIfInBounds_toArray, List.set_cons_zero, List.set_cons_succ]
    refine wpAnyH_done (by kernel_rfl) ?_ _
    have BZ2 := hid (below_on BQ4.out BZ.out)
    have FR : Hid (1 ≤ 1 + pa ∧ 1 + pa ≤ 6) := ⟨by have := F6.out; omega, by have := F6.out; omega⟩
    have FT : Hid (T ≤ T + pc ∧ T + pc ≤ T + 3) := ⟨by have := F4.out; omega, by have := F4.out; omega⟩
    have FA : Hid (0 ≤ 1 + pd ∧ 1 + pd ≤ 1000000) := ⟨by have := F12.out; omega, by have := F12.out; omega⟩
    have FO : Hid (0 ≤ min (1 + ps) (T + pc) ∧ min (1 + ps) (T + pc) ≤ T + pc) := ⟨by have := FS.out; have := HT.out.1; have := H1.out.1; have := F4.out.1; omega, Int.min_le_right _ _⟩
    clear hHeld ZA1 AMX E0 BQ4 BZ BQ5 FS F6 F4 F12 A12
    generalize min (1 + ps) (T + pc) = of_ at *
    generalize 1 + pa = fr at *
    generalize T + pc = t at *
    generalize 1 + pd = at_ at *
    clear u0a u0b u1a u1b u2a u2b u3a u3b
    have FTB : Hid (0 ≤ T ∧ t ≤ 1000000) := ⟨by have := HT.out; have := H1.out; omega, by have := HT.out; have := H1.out; have := H30.out; have := FT.out; omega⟩
    obtain ⟨v1, hv1⟩ : ∃ v, v = if T < t then -1 else V := ⟨_, rfl⟩
    obtain ⟨yv, hyv⟩ : ∃ y, y = yeV v1 fr at_ of_ ix st := ⟨_, rfl⟩
    obtain ⟨v2, hv2⟩ : ∃ v, v = if yv then fr else v1 := ⟨_, rfl⟩
    have HYV := hid hyv
    have HV1 := hid hv1
    have HV2 := hid hv2
    have V1OK : Hid (v1 = -1 ∨ ndOk v1 = true) := by show _ ∨ _; rw [hv1]; split; exact .inl rfl; exact HT.out.2.2.2
    have ST : Hid (Calls Tryz.prog 8 #[.pointer (some ⟨nb, 0, none⟩), .agg #[.int .i64 1, .int .i64 fr, .int .i64 0, .int .i64 t, .int .i64 at_, .int .i64 of_, .int .i64 0, .int .i64 0, .int .i64 0, .bool false, .slice none 0 0, .string ⟨#[]⟩]] wz fun e w' => ∃ b n', e = .returned (.slice (some ⟨b, 0, none⟩) 1 1) ∧ wz.heap.size ≤ b ∧ RowIs w' b [.int .i64 2, .int .i64 0, .int .i64 fr, .int .i64 t, .int .i64 0, .int .i64 0, .int .i64 0, .int .i64 0, .int .i64 0, .bool yv, .slice none 0 0, .string ⟨#[]⟩] 40 ∧ NdI w' Y.heap.size nb n' L7 [] ∧ Vd n' t v2 ix st ∧ Below Y.heap.size wz w') := by
      have q := vstep (HN.out.1.next BZ2.out) HN.out.2 ⟨H0.out.1, H0.out.2⟩ (show (0 : Int) ≤ st by have := H1.out; omega) FTB.out.1 FT.out.1 FTB.out.2 FR.out FA.out FO.out
      rw [← hv1, ← hyv, ← hv2] at q
      exact q
    clear hyv hv1 hv2 HN FTB
    go_wp2_with fail
    refine ST.out.mono ?_
    rintro e w5 ⟨lb, n5, rfl, hlb, r5, n5i, v5, b5⟩
    have C5 : Hid (Below Y.heap.size Y w5) := (below_on HB.out BZ2.out).trans b5
    have R5 := hid r5
    have N5 := hid n5i
    have V5 := hid v5
    have HA : Hid (Calls Tryz.prog 9 #[.pointer (some ⟨nb, 0, none⟩)] w5 fun e w' => e = .returned (.tuple #[.int .i64 t, .int .i64 v2]) ∧ Below w5.heap.size w5 w') := by
      have q := nhard_any n5i (by simp [L7])
      rw [v5.tm, v5.vt] at q
      exact q
    clear ST hlb r5 n5i v5 b5 BZ2 HB
    go_wp2_with fail
    refine HA.out.mono ?_
    rintro e w6 ⟨rfl, b6⟩
    have C6 := hid (below_on C5.out b6)
    have R6 := hid (R5.out.keep (b6.keep (fun _ => False)) (fun h => h))
    have N6 := hid (N5.out.next b6)
    clear HA b6 R5 N5 C5
    go_upto_if 106 with fail
    go_cut [8, 12] from 106 to 107 (fun s8 s12 wx => s8 = .int .i64 t ∧ s12 = .int .i64 v1 ∧ wx = w6)
    case first =>
      by_cases hu : T < t
      case pos =>
        have e1 : decide (t > T) = true := decide_eq_true hu
        have e2 : decide (T < t) = true := decide_eq_true hu
        have hv : v1 = -1 := by rw [HV1.out, if_pos hu]
        subst hv
        clear HYV HV1 HV2 V1OK R6 N6 V5 C6 HCB FR FT FA FO HT ZS BW H0 H1 H30 HLT HGK HM5
        try simp only [e2]
        go_wp2_with fail
        all_goals first | (exfalso; omega) | (go_meet; exact ⟨rfl, rfl, rfl⟩)
      have e1 : decide (t > T) = false := decide_eq_false hu
      have e2 : decide (T < t) = false := decide_eq_false hu
      have hv : v1 = V := by rw [HV1.out, if_neg hu]
      have et : t = T := by have := FT.out; omega
      subst hv
      subst et
      clear HYV HV1 HV2 V1OK R6 N6 V5 C6 HCB FR FT FA FO HT ZS BW H0 H1 H30 HLT HGK HM5
      try simp only [e2]
      go_wp2_with fail
      all_goals first | (exfalso; omega) | (go_meet; exact ⟨rfl, rfl, rfl⟩)
    case rest =>
      obtain ⟨rfl, rfl, hw⟩ := hcut
      subst hw
      clear HV1
      obtain ⟨s0, s1⟩ := ZS.out _ C6.out
      go_upto_region 17 with fail
      go_cut [21] from 108 to 137 (fun sx wx => sx = .bool yv ∧ wx = wc)
      case first =>
        by_cases k8 : v1 = -1
        case pos =>
          have b1 : decide (v1 = -1) = true := decide_eq_true k8
          have b2 : (v1 == -1) = true := by rw [beq_iff_eq]; exact k8
          clear k8
          by_cases k1 : of_ > st
          case pos =>
            have a1 : decide (of_ > st) = true := decide_eq_true k1
            have a2 : decide (st < of_) = true := decide_eq_true k1
            have hy : yv = true := by rw [HYV.out]; unfold yeV utD; rw [b1, a1]; rfl
            subst hy
            clear HYV HV2 V1OK R6 N6 V5 C6 HCB FR FT FA FO HT ZS BW H0 H1 H30 HLT HGK HM5 k1
            go_wp2_with fail
            go_meet
            exact ⟨rfl, rfl⟩
          have a1 : decide (of_ > st) = false := decide_eq_false k1
          have a2 : decide (st < of_) = false := decide_eq_false k1
          by_cases k2 : of_ = st
          case neg =>
            have a3 : decide (of_ = st) = false := decide_eq_false k2
            have a4 : (of_ == st) = false := by rw [beq_eq_false_iff_ne]; exact k2
            have hy : yv = false := by rw [HYV.out]; unfold yeV utD; rw [b1, a1, a3]; rfl
            subst hy
            clear HYV HV2 V1OK R6 N6 V5 C6 HCB FR FT FA FO HT ZS BW H0 H1 H30 HLT HGK HM5 k1 k2
            go_wp2_with fail
            go_meet
            exact ⟨rfl, rfl⟩
          have a3 : decide (of_ = st) = true := decide_eq_true k2
          have a4 : (of_ == st) = true := by rw [beq_iff_eq]; exact k2
          by_cases k3 : at_ ≥ ix
          case pos =>
            have a5 : decide (at_ ≥ ix) = true := decide_eq_true k3
            have a6 : decide (ix ≤ at_) = true := decide_eq_true k3
            have hy : yv = true := by rw [HYV.out]; unfold yeV utD; rw [b1, a1, a3, a5]; rfl
            subst hy
            clear HYV HV2 V1OK R6 N6 V5 C6 HCB FR FT FA FO HT ZS BW H0 H1 H30 HLT HGK HM5 k1 k2 k3
            go_wp2_with fail
            go_meet
            exact ⟨rfl, rfl⟩
          have a5 : decide (at_ ≥ ix) = false := decide_eq_false k3
          have a6 : decide (ix ≤ at_) = false := decide_eq_false k3
          have hy : yv = false := by rw [HYV.out]; unfold yeV utD; rw [b1, a1, a3, a5]; rfl
          subst hy
          clear HYV HV2 V1OK R6 N6 V5 C6 HCB FR FT FA FO HT ZS BW H0 H1 H30 HLT HGK HM5 k1 k2 k3
          go_wp2_with fail
          go_meet
          exact ⟨rfl, rfl⟩
        have b1 : decide (v1 = -1) = false := decide_eq_false k8
        have b2 : (v1 == -1) = false := by rw [beq_eq_false_iff_ne]; exact k8
        by_cases k9 : v1 = fr
        case pos =>
          have b3 : decide (v1 = fr) = true := decide_eq_true k9
          have b4 : (v1 == fr) = true := by rw [beq_iff_eq]; exact k9
          clear k8 k9
          by_cases k1 : of_ > st
          case pos =>
            have a1 : decide (of_ > st) = true := decide_eq_true k1
            have a2 : decide (st < of_) = true := decide_eq_true k1
            have hy : yv = true := by rw [HYV.out]; unfold yeV utD; rw [b1, b3, a1]; rfl
            subst hy
            clear HYV HV2 V1OK R6 N6 V5 C6 HCB FR FT FA FO HT ZS BW H0 H1 H30 HLT HGK HM5 k1
            go_wp2_with fail
            go_meet
            exact ⟨rfl, rfl⟩
          have a1 : decide (of_ > st) = false := decide_eq_false k1
          have a2 : decide (st < of_) = false := decide_eq_false k1
          by_cases k2 : of_ = st
          case neg =>
            have a3 : decide (of_ = st) = false := decide_eq_false k2
            have a4 : (of_ == st) = false := by rw [beq_eq_false_iff_ne]; exact k2
            have hy : yv = false := by rw [HYV.out]; unfold yeV utD; rw [b1, b3, a1, a3]; rfl
            subst hy
            clear HYV HV2 V1OK R6 N6 V5 C6 HCB FR FT FA FO HT ZS BW H0 H1 H30 HLT HGK HM5 k1 k2
            go_wp2_with fail
            go_meet
            exact ⟨rfl, rfl⟩
          have a3 : decide (of_ = st) = true := decide_eq_true k2
          have a4 : (of_ == st) = true := by rw [beq_iff_eq]; exact k2
          by_cases k3 : at_ ≥ ix
          case pos =>
            have a5 : decide (at_ ≥ ix) = true := decide_eq_true k3
            have a6 : decide (ix ≤ at_) = true := decide_eq_true k3
            have hy : yv = true := by rw [HYV.out]; unfold yeV utD; rw [b1, b3, a1, a3, a5]; rfl
            subst hy
            clear HYV HV2 V1OK R6 N6 V5 C6 HCB FR FT FA FO HT ZS BW H0 H1 H30 HLT HGK HM5 k1 k2 k3
            go_wp2_with fail
            go_meet
            exact ⟨rfl, rfl⟩
          have a5 : decide (at_ ≥ ix) = false := decide_eq_false k3
          have a6 : decide (ix ≤ at_) = false := decide_eq_false k3
          have hy : yv = false := by rw [HYV.out]; unfold yeV utD; rw [b1, b3, a1, a3, a5]; rfl
          subst hy
          clear HYV HV2 V1OK R6 N6 V5 C6 HCB FR FT FA FO HT ZS BW H0 H1 H30 HLT HGK HM5 k1 k2 k3
          go_wp2_with fail
          go_meet
          exact ⟨rfl, rfl⟩
        have b3 : decide (v1 = fr) = false := decide_eq_false k9
        have b4 : (v1 == fr) = false := by rw [beq_eq_false_iff_ne]; exact k9
        clear k8 k9
        have hy : yv = false := by rw [HYV.out]; unfold yeV utD; rw [b1, b3]; rfl
        subst hy
        clear HYV HV2 V1OK R6 N6 V5 C6 HCB FR FT FA FO HT ZS BW H0 H1 H30 HLT HGK HM5 
        go_wp2_with fail
        go_meet
        exact ⟨rfl, rfl⟩
      case rest =>
        obtain ⟨rfl, hw⟩ := hcut
        subst hw
        clear HYV
        go_upto_if 138 with fail
        go_cut [12] from 138 to 139 (fun sx wx => sx = .int .i64 v2 ∧ wx = wc)
        case first =>
          have V2E := HV2.out
          clear HV2 V1OK R6 N6 V5 C6 HCB FR FT FA FO HT ZS BW H0 H1 H30 HLT HGK HM5
          cases yv
          · have V2F : v2 = v1 := V2E
            subst V2F
            clear V2E
            go_wp2_with fail
            go_meet
            exact ⟨rfl, rfl⟩
          · have V2F : v2 = fr := V2E
            subst V2F
            clear V2E
            go_wp2_with fail
            go_meet
            exact ⟨rfl, rfl⟩
        case rest =>
          obtain ⟨rfl, hw⟩ := hcut
          subst hw
          have BD : Hid (st ≤ t ∧ t ≤ st + 3 * ((k + 1 : Nat) : Int) ∧ k + 1 ≤ 30 ∧ (v2 = -1 ∨ ndOk v2 = true)) := ⟨by have := HT.out; have := FT.out; omega, by have := HT.out; have := FT.out; omega, by have := H30.out; omega, by rw [HV2.out]; cases yv; exact V1OK.out; exact .inr (by have := FR.out; show ndOk fr = true; unfold ndOk; rw [decide_eq_true (show 0 ≤ fr by omega), decide_eq_true (show fr < 7 by omega)]; rfl)⟩
          have z0 := R6.out.cellAt (o := 0) rfl
          have z1 := R6.out.cellAt (o := 1) rfl
          have z2 := R6.out.cellAt (o := 2) rfl
          have z3 := R6.out.cellAt (o := 3) rfl
          have z9 := R6.out.cellAt (o := 9) rfl
          clear HT FT FR FA FO R6 HV2 V1OK
          by_cases hbk : k < bs.length
          case neg =>
            have hb1 : decide ((k : Int) < (bs.length : Int)) = false := decide_eq_false (by omega)
            have hb2 : decide (k < bs.length) = false := decide_eq_false hbk
            clear hbk HCB H0 H1 H30 BW ZS
            go_wp2
            go_roundg (qs.length - (k + 1))
            case measure => rw [HGK.out]; exact HM5.out
            case rel => exact ⟨k + 1, t, v2, nb, n5, HLT.out, rfl, rfl, rfl, rfl, by first | rw [hwk] | rfl | simp, ⟨N6.out, V5.out⟩, BD.out, C6.out⟩
          have hb1 : decide ((k : Int) < (bs.length : Int)) = true := decide_eq_true (by omega)
          have hb2 : decide (k < bs.length) = true := decide_eq_true hbk
          have hbi : (k : Int) < (bs.length : Int) := by omega
          obtain ⟨b3, off3, hadb, hb3, cb⟩ := HCB.out k hbk
          have db := ((below_on BY.out C6.out).cell (p := ⟨b3, off3 + k, none⟩) hb3).trans cb
          clear cb hb3 HCB
          generalize bs[k] = ag at *
          subst hadb
          clear hbk
          cases ag
          case false =>
            clear H0 H1 H30 BW ZS
            go_wp2
            go_roundg (qs.length - (k + 1))
            case measure => rw [HGK.out]; exact HM5.out
            case rel => exact ⟨k + 1, t, v2, nb, n5, HLT.out, rfl, rfl, rfl, rfl, by first | rw [hwk] | rfl | simp, ⟨N6.out, V5.out⟩, BD.out, C6.out⟩
          case true =>
            have BA : Hid (Calls Tryz.prog 10 #[.pointer (some ⟨nb, 0, none⟩)] wc fun e w' => ∃ ad cap, e = .returned (.agg #[.int .i64 ix, .int .i64 st, .slice ad L7.length cap, .string ⟨#[]⟩]) ∧ IntsI w' (.slice ad L7.length cap) L7 ∧ Below (wc).heap.size wc w') := by
              have q := nbase_ints N6.out (by simp [L7]) (by simp [L7]) (by rw [V5.out.bd]; decide)
              rw [V5.out.bi, V5.out.bt, V5.out.bd] at q
              exact q
            have NW2 : Hid (∀ W v, IntsI W v L7 → Calls Tryz.prog 6 #[.int .i64 0, .int .i64 t, .int .i64 v2, .agg #[.int .i64 ix, .int .i64 st, v, .string ⟨#[]⟩], .slice none 0 0, .int .i64 (k : Int)] W fun e w' => ∃ nb n, e = .returned (.tuple #[.pointer (some ⟨nb, 0, none⟩), .int .i64 0]) ∧ NdI w' W.heap.size nb n L7 [] ∧ Vd n t v2 ix st ∧ Below W.heap.size W w') := fun W v iv =>
              (nnew_ok 0 t v2 v ⟨ix, st, L7, ⟨#[]⟩⟩ (.slice none 0 0) [] (k : Int) W iv (mgE_ents W) (by simp) (by simp) (by decide) BD.out.1 (by have := BD.out; have := H1.out; have := H30.out; omega) BD.out.2.2.2 (chk7 ix st H0.out (by have := H1.out; omega)) rfl).mono fun e w' ⟨nb, bm, lg, ga, he, hn, hb⟩ => ⟨nb, _, he, hn, Vd.new t v2 ix st L7 (k : Int) bm lg ga, hb⟩
            clear N6 V5 ZS H0 H1 H30 BW
            go_wp2_with fail
            refine BA.out.mono ?_
            rintro e w7 ⟨adm, capm, rfl, im, b7⟩
            have C7 := hid (below_on C6.out b7)
            have NW3 := hid (NW2.out w7 _ im)
            clear BA NW2 im b7 C6 z0 z1 z2 z3 z9 s0 s1 db
            go_wp2_with fail
            refine NW3.out.mono ?_
            rintro e w8 ⟨nb8, n8, rfl, hn8, vd8, b8⟩
            have C8 := hid (below_on C7.out b8)
            have N8 : Hid (NdI w8 Y.heap.size nb8 n8 L7 []) := ⟨hn8.bx, Nat.le_trans C7.out.size hn8.ge, ownsRow_base hn8.mi C7.out.size, ownsRow_base hn8.lo C7.out.size⟩
            have V8 := hid vd8
            clear NW3 hn8 vd8 b8 C7
            go_wp2
            go_roundg (qs.length - (k + 1))
            case measure => rw [HGK.out]; exact HM5.out
            case rel => exact ⟨k + 1, t, v2, nb8, n8, HLT.out, rfl, rfl, rfl, rfl, by first | rw [hwk] | rfl | simp, ⟨N8.out, V8.out⟩, BD.out, C8.out⟩
end Go.Proofs.YtnldjcoajliciaaGreat
