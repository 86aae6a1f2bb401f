/- The walk of the law ExtentOpens. -/
import Derived.Test.YtedogofeibdjiaaGreatJoined18
import Derived.Test.YtedogofeibdjiaaGreatFlZ
import Derived.Test.YtedogofeibdjiaaGreatJoined17
import Derived.Deep.CutRange
import Derived.Deep.RegionHeld3
namespace Go.Proofs.YtedogofeibdjiaaGreat
open Go.RowKit Go.Maps
set_option linter.unusedVariables false
set_option linter.unusedSimpArgs false

theorem wok_mem {q : List (Bs × Bs)} (hq : ∀ y ∈ q, y.1.length + y.2.length ≤ 1048576) (k : Nat) : (∀ y ∈ wOk (q.take k), nameOk y.1 = true ∧ y.2.length ≤ 1048576) ∧ (wOk (q.take k)).length ≤ k := by
  refine ⟨fun y hy => ?_, ?_⟩
  · obtain ⟨h1, h2⟩ := List.mem_filter.1 hy
    have := hq y (List.mem_of_mem_take h1)
    exact ⟨h2, by omega⟩
  · have := List.length_filter_le (fun y : Bs × Bs => nameOk y.1) (q.take k)
    rw [List.length_take] at this
    unfold wOk
    omega
theorem stV0 (x : Nat) : stV x 0 = .pointer (some ⟨x, 0, none⟩) := if_pos rfl
set_option maxRecDepth 100000 in
set_option maxHeartbeats 4000000 in
theorem extentOpens_walk (v : Value) (q : List (Bs × Bs)) (w : World) (hs : FlsI w v q) (hq : ∀ y ∈ q, y.1.length + y.2.length ≤ 1048576) : Calls Tryz.prog 4 #[v] w fun e w' => e = .returned (.bool true) ∧ Below w.heap.size w w' := by
  obtain ⟨ad, cap, rfl⟩ : ∃ ad cap, v = .slice ad q.length cap := by
    rcases hs with ⟨ad, cap, e, e2⟩ | ⟨g, off, cap, e, _⟩
    · exact ⟨ad, cap, by rw [e, e2]; rfl⟩
    · exact ⟨_, _, e⟩
  have CEL : Hid (∀ (k : Nat) (h : k < q.length), ∃ g off, ad = some ⟨g, off, none⟩ ∧ ∀ W, Below w.heap.size w W → W.cell? ⟨g, off + k * 2, none⟩ = some (.string (tx q[k].1)) ∧ W.cell? ⟨g, off + k * 2 + 1, none⟩ = some (.string (tx q[k].2))) := by
    intro k h
    rcases hs with ⟨ad', cap', e, e2⟩ | ⟨g, off, cap', e, hg, hc⟩
    · rw [e2] at h; simp at h
    · injection e with e1 e2 e3
      exact ⟨g, off, e1, fun W hW => ⟨(hW.cell hg).trans (hc k h 0 (by omega)), (hW.cell hg).trans (hc k h 1 (by omega))⟩⟩
  have NW := hid (new_any w)
  obtain ⟨p, hp⟩ : ∃ p, p = w.heap.size := ⟨_, rfl⟩
  have HP := hid hp
  rw [← hp] at NW
  have AW := hid (fun W => awake6 W)
  have HQ := hid hq
  have WR : Hid (∀ (k : Nat) (h : k < q.length), k < 12 → ∀ W c, DiskIs W c p (wL (wOk (q.take k))) → Calls Tryz.prog 19 #[.pointer (some ⟨p, 0, none⟩), .string (tx q[k].1), .string (tx q[k].2)] W fun e w' => (∃ r, e = .returned (.int .i64 r)) ∧ Left W c p (wL (wOk (q.take (k + 1)))) w') := fun k h h12 W c D => by
    obtain ⟨m1, m2⟩ := wok_mem hq k
    have hsz := hq _ (List.getElem_mem h)
    have h3 := sum_le _ (fun y hy => (m1 y hy).2)
    have := write_any p c _ q[k].1 q[k].2 W D (by rw [wL_wt]; simp [wL]; omega) (by simp [wL]; omega)
    rw [wL_wr, ← wOk_take h] at this
    exact this.mono fun e w' ⟨he, hL⟩ => ⟨⟨_, he⟩, hL⟩
  clear hs hq hp
  go_enter Tryz.func4, Tryz.ntmps4
  go_wp2_with fail
  refine NW.out.mono ?_
  rintro e w1 ⟨rfl, hD, hk⟩
  have HK := hid hk
  have L1 : Hid (Left w1 (c0 p) p (wL (wOk (q.take 0))) w1) := left_same hD (Keep.refl _ _)
  have HB : Hid (∀ d W, Left w1 (c0 p) p d W → Below w.heap.size w W) := fun d W hL => by
    refine keep_below ((HK.out.mono (fun _ _ h => h.elim)).trans hL.2) (fun j hj e => ?_) (Nat.le_refl _)
    have e' : (if j = p then 0 else 7) < 6 := e
    rw [if_neg (by have := HP.out; omega)] at e'
    omega
  clear hD hk NW
  go_wp2
  go_loopw [4] (fun i wr => ∃ k : Nat, i = .int .i64 (k : Int) ∧ Hid (k ≤ 12) ∧ Hid (Left w1 (c0 p) p (wL (wOk (q.take k))) wr)) (fun i _ => 12 - (intOf i).toNat)
  case atStart => exact ⟨0, rfl, Nat.zero_le _, L1⟩
  case round =>
    clear L1
    obtain ⟨k, rfl, HK12, HL⟩ := hrel
    by_cases h1 : k < q.length
    · have n1 : decide ((k : Int) < (q.length : Int)) = true := decide_eq_true (by omega)
      have n1' : decide (k < q.length) = true := decide_eq_true h1
      by_cases h2 : k < 12
      · have n2 : decide ((k : Int) < 12) = true := decide_eq_true (by omega)
        have n2' : decide (k < 12) = true := decide_eq_true h2
        obtain ⟨g, off, hva, hcl⟩ := CEL.out k h1
        have HCL := hid hcl
        have WRk := hid (WR.out k h1 h2)
        clear hcl CEL WR HQ AW
        generalize tx q[k].1 = NM at *
        generalize tx q[k].2 = SS at *
        subst hva
        have hk0 : (0 : Int) ≤ (k : Int) := by omega
        have hk1 : (k : Int) < (q.length : Int) := by omega
        have H2 := hid h2
        have HW : Hid (wrap64 ((k : Int) + 1) = (k : Int) + 1) := IntWalk.wrap64_in _ (by omega)
        clear h2
        go_upto_region 5 with fail
        have ZC : Hid (∀ d W, Left w1 (c0 p) p d W → (fun w' => w'.cell? ⟨g, off + k * 2, none⟩ = some (.string NM) ∧ w'.cell? ⟨g, off + k * 2 + 1, none⟩ = some (.string SS)) W) := fun d W hL => HCL.out W (HB.out d W hL)
        have B0 : Hid (Left w1 (c0 p) p (wL (wOk (q.take k))) wr.drew) := HL.out.keepR (keep_drew _ _)
        refine wp_region_held_drew (S := (fun w' => w'.cell? ⟨g, off + k * 2, none⟩ = some (.string NM) ∧ w'.cell? ⟨g, off + k * 2 + 1, none⟩ = some (.string SS))) (by kernel_rfl) (ZC.out _ _ B0.out) (fun hHeld => ?_)
        refine wpAnyH_take (i := 0) (v := ?vv1) rfl (by kernel_rfl) (by kernel_rfl) (by kernel_rfl) (fun _ _ _ h => h) (Or.inl ⟨by rfl, ?hy1⟩) (by assumption) ?rest1
        case hy1 => (intro w hSw; (try dsimp only at hSw); go_simp; first | done | with_reducible rfl)
        try simp only [Act.put, List.getElem_toArray, List.getElem_cons_succ, List.getElem_cons_zero, List.setIfInBounds_toArray, List.set_cons_zero, List.set_cons_succ]
        refine wpAnyH_take (i := 1) (v := ?vv2) rfl (by kernel_rfl) (by kernel_rfl) (by kernel_rfl) (fun _ _ _ h => h) (Or.inl ⟨by rfl, ?hy2⟩) (by assumption) ?rest2
        case hy2 => (intro w hSw; (try dsimp only at hSw); go_simp; first | done | with_reducible rfl)
        try simp only [Act.put, List.getElem_toArray, List.getElem_cons_succ, List.getElem_cons_zero, List.setIfInBounds_toArray, List.set_cons_zero, List.set_cons_succ]
        refine wpAnyH_take (i := 2) (v := ?vv3) rfl (by kernel_rfl) (by kernel_rfl) (by kernel_rfl) (fun _ _ _ h => h) (Or.inl ⟨by rfl, ?hy3⟩) (by assumption) ?rest3
        case hy3 => (intro w hSw; (try dsimp only at hSw); go_simp; first | done | with_reducible rfl)
        try simp only [Act.put, List.getElem_toArray, List.getElem_cons_succ, List.getElem_cons_zero, List.setIfInBounds_toArray, List.set_cons_zero, List.set_cons_succ]
        refine wpAnyH_take (i := 3) (v := ?vv4) rfl (by kernel_rfl) (by kernel_rfl) (by kernel_rfl) (fun _ _ _ h => h) (Or.inl ⟨by rfl, ?hy4⟩) (by assumption) ?rest4
        case hy4 => (intro w hSw; (try dsimp only at hSw); go_simp; first | done | with_reducible rfl)
        try simp only [Act.put, List.getElem_toArray, List.getElem_cons_succ, List.getElem_cons_zero, List.setIfInBounds_toArray, List.set_cons_zero, List.set_cons_succ]
        refine wpAnyH_take (i := 4) (v := ?vv5) rfl (by kernel_rfl) (by kernel_rfl) (by kernel_rfl) (fun _ _ _ h => h) (Or.inl ⟨by rfl, ?hy5⟩) (by assumption) ?rest5
        case hy5 => (intro w hSw; (try dsimp only at hSw); go_simp; first | done | with_reducible rfl)
        try simp only [Act.put, List.getElem_toArray, List.getElem_cons_succ, List.getElem_cons_zero, List.setIfInBounds_toArray, List.set_cons_zero, List.set_cons_succ]
        refine wpAnyH_take (i := 5) (v := ?vv6) rfl (by kernel_rfl) (by kernel_rfl) (by kernel_rfl) (fun _ _ _ h => h) (Or.inl ⟨by rfl, ?hy6⟩) (by assumption) ?rest6
        case hy6 => (intro w hSw; (try dsimp only at hSw); go_simp; first | done | with_reducible rfl)
        try simp only [Act.put, List.getElem_toArray, List.getElem_cons_succ, List.getElem_cons_zero, List.setIfInBounds_toArray, List.set_cons_zero, List.set_cons_succ]
        refine wpAnyH_take (i := 6) (v := ?vv7) rfl (by kernel_rfl) (by kernel_rfl) (by kernel_rfl) (fun _ _ _ h => h) (Or.inl ⟨by rfl, ?hy7⟩) (by assumption) ?rest7
        case hy7 => (intro w hSw; (try dsimp only at hSw); go_simp; first | done | with_reducible rfl)
        try simp only [Act.put, List.getElem_toArray, List.getElem_cons_succ, List.getElem_cons_zero, List.setIfInBounds_toArray, List.set_cons_zero, List.set_cons_succ]
        refine wpAnyH_take (i := 7) (v := ?vv8) rfl (by kernel_rfl) (by kernel_rfl) (by kernel_rfl) (fun _ _ _ h => h) (Or.inl ⟨by rfl, ?hy8⟩) (by assumption) ?rest8
        case hy8 => (intro w hSw; (try dsimp only at hSw); go_simp; first | done | with_reducible rfl)
        try simp only [Act.put, List.getElem_toArray, List.getElem_cons_succ, List.getElem_cons_zero, List.setIfInBounds_toArray, List.set_cons_zero, List.set_cons_succ]
        refine wpAnyH_take (i := 8) (v := ?vv9) rfl (by kernel_rfl) (by kernel_rfl) (by kernel_rfl) (fun _ _ _ h => h) (Or.inl ⟨by rfl, ?hy9⟩) (by assumption) ?rest9
        case hy9 => (intro w hSw; (try dsimp only at hSw); go_simp; first | done | with_reducible rfl)
        try simp only [Act.put, List.getElem_toArray, List.getElem_cons_succ, List.getElem_cons_zero, List.setIfInBounds_toArray, List.set_cons_zero, List.set_cons_succ]
        refine wpAnyH_take (i := 9) (v := ?vv10) rfl (by kernel_rfl) (by kernel_rfl) (by kernel_rfl) (fun _ _ _ h => h) (Or.inl ⟨by rfl, ?hy10⟩) (by assumption) ?rest10
        case hy10 => (intro w hSw; (try dsimp only at hSw); go_simp; first | done | with_reducible rfl)
        try simp only [Act.put, List.getElem_toArray, List.getElem_cons_succ, List.getElem_cons_zero, List.setIfInBounds_toArray, List.set_cons_zero, List.set_cons_succ]
        refine wpAnyH_take (i := 10) (v := ?vv11) rfl (by kernel_rfl) (by kernel_rfl) (by kernel_rfl) (fun _ _ _ h => h) (Or.inl ⟨by rfl, ?hy11⟩) (by assumption) ?rest11
        case hy11 => (intro w hSw; (try dsimp only at hSw); go_simp; first | done | with_reducible rfl)
        try simp only [Act.put, List.getElem_toArray, List.getElem_cons_succ, List.getElem_cons_zero, List.setIfInBounds_toArray, List.set_cons_zero, List.set_cons_succ]
        refine wpAnyH_ready (rs := [11]) (by kernel_rfl) (by simp) ?_
        refine AllReadyH.cons rfl (fun K hK => ?_) AllReadyH.nil
        go_simp
        obtain ⟨⟨ci, DI, hci⟩, KI⟩ := B0.out
        have hLT : ∀ d' W, Left _ ci p d' W → Left w1 (c0 p) p d' W := fun d' W h => Left.trans hci KI h
        have HLT := hid hLT
        clear hLT
        refine (WRk.out _ _ DI).mono ?_
        rintro e u1 ⟨⟨rr, rfl⟩, hL⟩
        have L1 := hid (HLT.out _ _ hL)
        have ZC1 := ZC.out _ _ L1.out
        clear HLT DI hci KI hL hHeld
        go_wp2_with fail
        refine hK.out _ _ ZC1 (fun hHeld => ?_)
        clear hK K
        try simp only [Act.put, List.getElem_toArray, List.getElem_cons_succ, List.getElem_cons_zero, List.setIfInBounds_toArray, List.set_cons_zero, List.set_cons_succ]
        refine wpAnyH_done (by kernel_rfl) ?_ _
        clear hHeld ZC ZC1 WRk HCL
        go_wp2
        exact ⟨⟨k + 1, by rw [HW.out]; rfl, by have := H2.out; show k + 1 ≤ 12; omega, L1⟩, by have := H2.out; have hw := HW.out; rw [hw]; simp [intOf]; omega⟩
      · have n2 : decide ((k : Int) < 12) = false := decide_eq_false (by omega)
        have n2' : decide (k < 12) = false := decide_eq_false h2
        obtain ⟨m1, m2⟩ := wok_mem HQ.out k
        have hw := ws_ok m1 (by have := HK12.out; omega)
        have hsy := wL_syn (wOk (q.take k))
        have hn : (wOk (q.take k)).length ≤ 12 := by have := HK12.out; omega
        have SY : Hid (∀ W c, DiskIs W c p (wL (wOk (q.take k))) → Calls Tryz.prog 20 #[.pointer (some ⟨p, 0, none⟩)] W fun e w' => e = .returned (.int .i64 0) ∧ Left W c p (dR (wA (wOk (q.take k))) [] (wOk (q.take k)).length) w') := fun W c D => by
          have h3 := sum_le _ (fun y hy => (m1 y hy).2)
          have := sync_all p c _ W D (by rw [wL_wt]; simp [wL]; omega)
          rw [hsy] at this
          exact this
        generalize wL (wOk (q.take k)) = D0 at *
        generalize wA (wOk (q.take k)) = A at *
        generalize (wOk (q.take k)).length = n at *
        obtain ⟨m, ho1, ho2, hm⟩ := open_ws hw (n := n)
        have FL : Hid (∀ W c, DiskIs W c p (dR A [] n) → Calls Tryz.prog 26 #[.pointer (some ⟨p, 0, none⟩)] W fun e w' => ∃ v, e = .returned v ∧ FileRow w' W.heap.size v A ∧ Keep (fun _ => False) W w') := fun W c D => by
          have := files_any p c _ W D rfl (by rw [dR_now0]; have := hw.l; omega) (fun x hx => hw.n x (by rw [dR_now0] at hx; exact hx)) (by rw [dR_now0]; exact hw.s)
          rw [dR_now0] at this
          exact this
        have RO : Hid (∀ v W, FileRow W 0 v A → Calls Tryz.prog 17 #[v] W fun e w' => ∃ v', e = .returned (.tuple #[v', .int .i64 (((A.filter roN).length : Nat) : Int)]) ∧ FileRow w' W.heap.size v' (A.filter roK) ∧ Keep (fun _ => False) W w') := fun v W h => ropen_any A v W h (by have := hw.l; omega) (fun y hy => ⟨Nat.le_trans (nameOk_len (hw.n y hy)) (by omega), Nat.le_trans (hw.z y hy) (by omega)⟩)
        have OP1 : Hid (∀ W c, DiskIs W c p (dR A [] n) → Calls Tryz.prog 7 #[.pointer (some ⟨p, 0, none⟩)] W fun e w' => e = .returned (.tuple #[.pointer (some ⟨W.heap.size, 0, none⟩), .int .i64 (((A.filter roN).length : Nat) : Int), .int .i64 0]) ∧ Left W c p (dR (A.filter roK) [] m) w') := fun W c D => by
          have := open_up p c _ W D (hw.op (by omega))
          rw [ho1] at this
          simp only [stV0] at this
          exact this.mono fun e w' ⟨he, hL, _⟩ => ⟨he, hL⟩
        have OP2 : Hid (∀ W c, DiskIs W c p (dR (A.filter roK) [] m) → Calls Tryz.prog 7 #[.pointer (some ⟨p, 0, none⟩)] W fun e w' => e = .returned (.tuple #[.pointer (some ⟨W.heap.size, 0, none⟩), .int .i64 0, .int .i64 0]) ∧ Left W c p (dR (A.filter roK) [] m) w') := fun W c D => by
          have := open_up p c _ W D ((hw.flt roK).op (by omega))
          rw [ho2] at this
          simp only [stV0] at this
          exact this.mono fun e w' ⟨he, hL, _⟩ => ⟨he, hL⟩
        have FL2 : Hid (∀ W c, DiskIs W c p (dR (A.filter roK) [] m) → Calls Tryz.prog 26 #[.pointer (some ⟨p, 0, none⟩)] W fun e w' => ∃ v, e = .returned v ∧ FileRow w' W.heap.size v (A.filter roK) ∧ Keep (fun _ => False) W w') := fun W c D => by
          have hw2 := hw.flt roK
          have := files_any p c _ W D rfl (by rw [dR_now0]; have := hw2.l; omega) (fun x hx => hw2.n x (by rw [dR_now0] at hx; exact hx)) (by rw [dR_now0]; exact hw2.s)
          rw [dR_now0] at this
          exact this
        have SM : Hid (∀ B1 B2 v1 v2 W, FileRow W B1 v1 (A.filter roK) → FileRow W B2 v2 (A.filter roK) → Calls Tryz.prog 25 #[v1, v2] W fun e w' => e = .returned (.bool true) ∧ Keep (fun _ => False) W w') := fun B1 B2 v1 v2 W h1 h2 => same_true _ B1 B2 v1 v2 W h1 h2 (by have := (hw.flt roK).l; omega)
        have WT : Hid (∀ W c, DiskIs W c p (dR (A.filter roK) [] m) → Calls Tryz.prog 27 #[.pointer (some ⟨p, 0, none⟩)] W fun e w' => e = .returned (.int .i64 0) ∧ w' = W) := fun W c D => waits_any p c _ W D
        have CH : Hid (∀ W c, DiskIs W c p (dR (A.filter roK) [] m) → Calls Tryz.prog 28 #[.pointer (some ⟨p, 0, none⟩)] W fun e w' => e = .returned (.int .i64 (m : Int)) ∧ Keep (fun _ => False) W w') := fun W c D => chgs_any p c _ W D
        have HL0 := hid HL.out
        clear m1 m2 hw hsy hn ho1 ho2 hm WR HQ CEL HL
        generalize dR A [] n = D1 at *
        generalize hB : A.filter roK = B at *
        generalize (A.filter roN).length = N at *
        generalize dR B [] m = D2 at *
        clear hB
        go_wp2_with fail
        refine (stepL HL0.out SY.out).mono ?_
        rintro e u1 ⟨rfl, hL⟩
        have L1 := hid hL
        clear hL HL0 SY
        go_wp2_with fail
        obtain ⟨⟨ci, DI, hci⟩, KI⟩ := L1.out
        refine (FL.out _ _ DI).mono ?_
        rintro e u2 ⟨v1, rfl, hr, hk⟩
        have R2 : Hid (FileRow u2 0 v1 A) := ownsRow_base hr (Nat.zero_le _)
        have K2 := hid hk
        clear hr hk DI hci KI FL
        go_wp2_with fail
        refine (RO.out _ _ R2.out).mono ?_
        rintro e u3 ⟨v2, rfl, hr, hk⟩
        have R3 := hid hr
        have K3 := hid (K2.out.trans hk)
        have HS : Hid (u1.heap.size ≤ u2.heap.size) := K2.out.size
        clear hr hk K2 R2 RO
        obtain ⟨c2, hL2, h7, htr⟩ := left_fresh L1.out K3.out
        have L3 := hid hL2
        have H7 : Hid (∀ j, u2.heap.size ≤ j → c2 j = 7) := fun j hj => h7 j (Nat.le_trans HS.out hj)
        have TR := hid htr
        clear hL2 h7 htr K3 L1 HS
        go_wp2_with fail
        obtain ⟨⟨ci, DI, hci⟩, KI⟩ := L3.out
        have hLT : ∀ W, Left _ ci p D2 W → Left _ c2 p D2 W := fun W h => Left.trans hci KI h
        have HLT := hid hLT
        clear hLT
        refine (OP1.out _ _ DI).mono ?_
        rintro e u4 ⟨rfl, hL⟩
        have L4 := hid (HLT.out _ hL)
        clear HLT DI hci KI OP1 hL
        have R4 : Hid (FileRow u4 u2.heap.size v2 B) := fresh_row R3.out H7.out L4.out
        have T4 := hid (TR.out _ _ L4.out)
        clear R3 H7 L4 L3 TR
        go_wp2_with fail
        refine (AW.out _).mono ?_
        rintro e u5 ⟨rfl, hb⟩
        have T5 := hid (T4.out.keepR (hb.keep _))
        have R5 : Hid (FileRow u5 u2.heap.size v2 B) := (hb.keep (fun _ => False)).ownsRow R4.out (fun _ _ h => h)
        clear hb T4 R4 AW
        go_wp2_with fail
        obtain ⟨⟨ci, DI, hci⟩, KI⟩ := T5.out
        refine (FL2.out _ _ DI).mono ?_
        rintro e u6 ⟨v3, rfl, hr, hk⟩
        have R6 := hid hr
        have R6b : Hid (FileRow u6 u2.heap.size v2 B) := hk.ownsRow R5.out (fun _ _ h => h)
        have T6 := hid (T5.out.keepR hk)
        clear hr hk DI hci KI FL2 T5 R5
        go_wp2_with fail
        refine (SM.out _ _ _ _ _ R6.out R6b.out).mono ?_
        rintro e u7 ⟨rfl, hk⟩
        have T7 := hid (T6.out.keepR hk)
        clear hk
        clear SM R6 R6b T6
        go_wp2_with fail
        obtain ⟨⟨ci, DI, hci⟩, KI⟩ := T7.out
        refine (WT.out _ _ DI).mono ?_
        rintro e u8 ⟨rfl, rfl⟩
        clear DI hci KI WT
        go_wp2_with fail
        refine (stepK T7.out CH.out).mono ?_
        rintro e u9 ⟨rfl, hL⟩
        have T9 := hid hL
        clear hL T7
        go_wp2_with fail
        obtain ⟨⟨ci, DI, hci⟩, KI⟩ := T9.out
        have hLT : ∀ W, Left _ ci p D2 W → Left w1 (c0 p) p D2 W := fun W h => Left.trans hci KI h
        have HLT := hid hLT
        clear hLT
        refine (OP2.out _ _ DI).mono ?_
        rintro e u10 ⟨rfl, hL⟩
        have T10 := hid (HLT.out _ hL)
        clear HLT DI hci KI OP2 hL T9
        go_wp2_with fail
        refine (stepK T10.out CH.out).mono ?_
        rintro e u11 ⟨rfl, hL⟩
        have T11 := hid hL
        clear hL T10 CH
        go_wp2
        go_ret
        exact ⟨rfl, HB.out _ _ T11.out⟩
    · have n1 : decide ((k : Int) < (q.length : Int)) = false := decide_eq_false (by omega)
      have n1' : decide (k < q.length) = false := decide_eq_false h1
      obtain ⟨m1, m2⟩ := wok_mem HQ.out k
      have hw := ws_ok m1 (by have := HK12.out; omega)
      have hsy := wL_syn (wOk (q.take k))
      have hn : (wOk (q.take k)).length ≤ 12 := by have := HK12.out; omega
      have SY : Hid (∀ W c, DiskIs W c p (wL (wOk (q.take k))) → Calls Tryz.prog 20 #[.pointer (some ⟨p, 0, none⟩)] W fun e w' => e = .returned (.int .i64 0) ∧ Left W c p (dR (wA (wOk (q.take k))) [] (wOk (q.take k)).length) w') := fun W c D => by
        have h3 := sum_le _ (fun y hy => (m1 y hy).2)
        have := sync_all p c _ W D (by rw [wL_wt]; simp [wL]; omega)
        rw [hsy] at this
        exact this
      generalize wL (wOk (q.take k)) = D0 at *
      generalize wA (wOk (q.take k)) = A at *
      generalize (wOk (q.take k)).length = n at *
      obtain ⟨m, ho1, ho2, hm⟩ := open_ws hw (n := n)
      have FL : Hid (∀ W c, DiskIs W c p (dR A [] n) → Calls Tryz.prog 26 #[.pointer (some ⟨p, 0, none⟩)] W fun e w' => ∃ v, e = .returned v ∧ FileRow w' W.heap.size v A ∧ Keep (fun _ => False) W w') := fun W c D => by
        have := files_any p c _ W D rfl (by rw [dR_now0]; have := hw.l; omega) (fun x hx => hw.n x (by rw [dR_now0] at hx; exact hx)) (by rw [dR_now0]; exact hw.s)
        rw [dR_now0] at this
        exact this
      have RO : Hid (∀ v W, FileRow W 0 v A → Calls Tryz.prog 17 #[v] W fun e w' => ∃ v', e = .returned (.tuple #[v', .int .i64 (((A.filter roN).length : Nat) : Int)]) ∧ FileRow w' W.heap.size v' (A.filter roK) ∧ Keep (fun _ => False) W w') := fun v W h => ropen_any A v W h (by have := hw.l; omega) (fun y hy => ⟨Nat.le_trans (nameOk_len (hw.n y hy)) (by omega), Nat.le_trans (hw.z y hy) (by omega)⟩)
      have OP1 : Hid (∀ W c, DiskIs W c p (dR A [] n) → Calls Tryz.prog 7 #[.pointer (some ⟨p, 0, none⟩)] W fun e w' => e = .returned (.tuple #[.pointer (some ⟨W.heap.size, 0, none⟩), .int .i64 (((A.filter roN).length : Nat) : Int), .int .i64 0]) ∧ Left W c p (dR (A.filter roK) [] m) w') := fun W c D => by
        have := open_up p c _ W D (hw.op (by omega))
        rw [ho1] at this
        simp only [stV0] at this
        exact this.mono fun e w' ⟨he, hL, _⟩ => ⟨he, hL⟩
      have OP2 : Hid (∀ W c, DiskIs W c p (dR (A.filter roK) [] m) → Calls Tryz.prog 7 #[.pointer (some ⟨p, 0, none⟩)] W fun e w' => e = .returned (.tuple #[.pointer (some ⟨W.heap.size, 0, none⟩), .int .i64 0, .int .i64 0]) ∧ Left W c p (dR (A.filter roK) [] m) w') := fun W c D => by
        have := open_up p c _ W D ((hw.flt roK).op (by omega))
        rw [ho2] at this
        simp only [stV0] at this
        exact this.mono fun e w' ⟨he, hL, _⟩ => ⟨he, hL⟩
      have FL2 : Hid (∀ W c, DiskIs W c p (dR (A.filter roK) [] m) → Calls Tryz.prog 26 #[.pointer (some ⟨p, 0, none⟩)] W fun e w' => ∃ v, e = .returned v ∧ FileRow w' W.heap.size v (A.filter roK) ∧ Keep (fun _ => False) W w') := fun W c D => by
        have hw2 := hw.flt roK
        have := files_any p c _ W D rfl (by rw [dR_now0]; have := hw2.l; omega) (fun x hx => hw2.n x (by rw [dR_now0] at hx; exact hx)) (by rw [dR_now0]; exact hw2.s)
        rw [dR_now0] at this
        exact this
      have SM : Hid (∀ B1 B2 v1 v2 W, FileRow W B1 v1 (A.filter roK) → FileRow W B2 v2 (A.filter roK) → Calls Tryz.prog 25 #[v1, v2] W fun e w' => e = .returned (.bool true) ∧ Keep (fun _ => False) W w') := fun B1 B2 v1 v2 W h1 h2 => same_true _ B1 B2 v1 v2 W h1 h2 (by have := (hw.flt roK).l; omega)
      have WT : Hid (∀ W c, DiskIs W c p (dR (A.filter roK) [] m) → Calls Tryz.prog 27 #[.pointer (some ⟨p, 0, none⟩)] W fun e w' => e = .returned (.int .i64 0) ∧ w' = W) := fun W c D => waits_any p c _ W D
      have CH : Hid (∀ W c, DiskIs W c p (dR (A.filter roK) [] m) → Calls Tryz.prog 28 #[.pointer (some ⟨p, 0, none⟩)] W fun e w' => e = .returned (.int .i64 (m : Int)) ∧ Keep (fun _ => False) W w') := fun W c D => chgs_any p c _ W D
      have HL0 := hid HL.out
      clear m1 m2 hw hsy hn ho1 ho2 hm WR HQ CEL HL
      generalize dR A [] n = D1 at *
      generalize hB : A.filter roK = B at *
      generalize (A.filter roN).length = N at *
      generalize dR B [] m = D2 at *
      clear hB
      go_wp2_with fail
      refine (stepL HL0.out SY.out).mono ?_
      rintro e u1 ⟨rfl, hL⟩
      have L1 := hid hL
      clear hL HL0 SY
      go_wp2_with fail
      obtain ⟨⟨ci, DI, hci⟩, KI⟩ := L1.out
      refine (FL.out _ _ DI).mono ?_
      rintro e u2 ⟨v1, rfl, hr, hk⟩
      have R2 : Hid (FileRow u2 0 v1 A) := ownsRow_base hr (Nat.zero_le _)
      have K2 := hid hk
      clear hr hk DI hci KI FL
      go_wp2_with fail
      refine (RO.out _ _ R2.out).mono ?_
      rintro e u3 ⟨v2, rfl, hr, hk⟩
      have R3 := hid hr
      have K3 := hid (K2.out.trans hk)
      have HS : Hid (u1.heap.size ≤ u2.heap.size) := K2.out.size
      clear hr hk K2 R2 RO
      obtain ⟨c2, hL2, h7, htr⟩ := left_fresh L1.out K3.out
      have L3 := hid hL2
      have H7 : Hid (∀ j, u2.heap.size ≤ j → c2 j = 7) := fun j hj => h7 j (Nat.le_trans HS.out hj)
      have TR := hid htr
      clear hL2 h7 htr K3 L1 HS
      go_wp2_with fail
      obtain ⟨⟨ci, DI, hci⟩, KI⟩ := L3.out
      have hLT : ∀ W, Left _ ci p D2 W → Left _ c2 p D2 W := fun W h => Left.trans hci KI h
      have HLT := hid hLT
      clear hLT
      refine (OP1.out _ _ DI).mono ?_
      rintro e u4 ⟨rfl, hL⟩
      have L4 := hid (HLT.out _ hL)
      clear HLT DI hci KI OP1 hL
      have R4 : Hid (FileRow u4 u2.heap.size v2 B) := fresh_row R3.out H7.out L4.out
      have T4 := hid (TR.out _ _ L4.out)
      clear R3 H7 L4 L3 TR
      go_wp2_with fail
      refine (AW.out _).mono ?_
      rintro e u5 ⟨rfl, hb⟩
      have T5 := hid (T4.out.keepR (hb.keep _))
      have R5 : Hid (FileRow u5 u2.heap.size v2 B) := (hb.keep (fun _ => False)).ownsRow R4.out (fun _ _ h => h)
      clear hb T4 R4 AW
      go_wp2_with fail
      obtain ⟨⟨ci, DI, hci⟩, KI⟩ := T5.out
      refine (FL2.out _ _ DI).mono ?_
      rintro e u6 ⟨v3, rfl, hr, hk⟩
      have R6 := hid hr
      have R6b : Hid (FileRow u6 u2.heap.size v2 B) := hk.ownsRow R5.out (fun _ _ h => h)
      have T6 := hid (T5.out.keepR hk)
      clear hr hk DI hci KI FL2 T5 R5
      go_wp2_with fail
      refine (SM.out _ _ _ _ _ R6.out R6b.out).mono ?_
      rintro e u7 ⟨rfl, hk⟩
      have T7 := hid (T6.out.keepR hk)
      clear hk
      clear SM R6 R6b T6
      go_wp2_with fail
      obtain ⟨⟨ci, DI, hci⟩, KI⟩ := T7.out
      refine (WT.out _ _ DI).mono ?_
      rintro e u8 ⟨rfl, rfl⟩
      clear DI hci KI WT
      go_wp2_with fail
      refine (stepK T7.out CH.out).mono ?_
      rintro e u9 ⟨rfl, hL⟩
      have T9 := hid hL
      clear hL T7
      go_wp2_with fail
      obtain ⟨⟨ci, DI, hci⟩, KI⟩ := T9.out
      have hLT : ∀ W, Left _ ci p D2 W → Left w1 (c0 p) p D2 W := fun W h => Left.trans hci KI h
      have HLT := hid hLT
      clear hLT
      refine (OP2.out _ _ DI).mono ?_
      rintro e u10 ⟨rfl, hL⟩
      have T10 := hid (HLT.out _ hL)
      clear HLT DI hci KI OP2 hL T9
      go_wp2_with fail
      refine (stepK T10.out CH.out).mono ?_
      rintro e u11 ⟨rfl, hL⟩
      have T11 := hid hL
      clear hL T10 CH
      go_wp2
      go_ret
      exact ⟨rfl, HB.out _ _ T11.out⟩
end Go.Proofs.YtedogofeibdjiaaGreat
