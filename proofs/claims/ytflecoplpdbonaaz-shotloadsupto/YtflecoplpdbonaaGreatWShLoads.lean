/- The walk of the law ShotLoads. -/
import Derived.Test.YtflecoplpdbonaaGreatSgL
import Derived.Deep.CutRange
import Derived.Deep.RegionHeld3
namespace Go.Proofs.YtflecoplpdbonaaGreat
open Go.RowKit Go.Maps
set_option linter.unusedVariables false
set_option linter.unusedSimpArgs false

set_option maxRecDepth 100000 in
set_option maxHeartbeats 4000000 in
theorem loads_00 (F G : ByteArray) (x : Int) (w : World) (hF : F.size ≤ 1048576) (hG : G.size ≤ 1048576) (hx1 : (bits .and .i64 x 1 == 1) = false) (hx2 : (bits .and .i64 x 2 == 2) = false) : Calls Tryz.prog 3 #[.string F, .string G, .int .i64 x] w fun e w' => e = .returned (.bool true) ∧ Below w.heap.size w w' := by
  have NW := hid (new_any w)
  obtain ⟨p, hp⟩ : ∃ p, p = w.heap.size := ⟨_, rfl⟩
  have HP := hid hp
  rw [← hp] at NW
  have hF' : F.data.toList.length ≤ 1048576 := hF
  have hG' : G.data.toList.length ≤ 1048576 := hG
  have tF : tx F.data.toList = F := rfl
  have tG : tx G.data.toList = G := rfl
  have SY : Hid (∀ W c, DiskIs W c p d0 → Calls Tryz.prog 6 #[.pointer (some ⟨p, 0, none⟩)] W fun e w' => e = .returned (.int .i64 0) ∧ Left W c p (lsD false false [] []) w') := fun W c D => by
    have := sync_all p c _ W D (by simp [d0, Ds.wt, tot] <;> omega)
    rw [ls_s00] at this
    exact this
  have FL : Hid (∀ W c, DiskIs W c p (lsD false false [] []) → Calls Tryz.prog 8 #[.pointer (some ⟨p, 0, none⟩)] W fun e w' => ∃ v, e = .returned v ∧ w'.ownsRow W.heap.size 63 2 v (lsF false false [] []).length (fC (lsF false false [] [])) ∧ Keep (fun _ => False) W w') := fun W c D => files_any p c _ W D rfl (by rw [ls_now]; have := ls_len false false [] []; omega) (ls_nm _ _ _ _) (ls_srt _ _ _ _)
  have RL : Hid (∀ v W, FileRow W 0 v (lsF false false [] []) → Calls Tryz.prog 7 #[v] W fun e w' => ∃ ad cap, e = .returned (.tuple #[shV (.slice ad (lsQ false []).s.ms.length cap) (lsQ false []).s, .bool (lsQ false []).b, .int .i64 (lsQ false []).e]) ∧ OwnI w' W.heap.size (.slice ad (lsQ false []).s.ms.length cap) (lsQ false []).s.ms ∧ Below W.heap.size W w') := fun v W h => by
    have := rload_any _ v W h (ls_srt _ _ _ _) (by have := ls_len false false [] []; omega) (fun y hy => by simp [lsF] at hy; try exact hy.elim)
    rw [ls_rl] at this
    exact this
  have LD : Hid (∀ W c, DiskIs W c p (lsD false false [] []) → Calls Tryz.prog 9 #[.pointer (some ⟨p, 0, none⟩)] W fun e w' => ∃ ad cap, e = .returned (.tuple #[shV (.slice ad (lsQ false []).s.ms.length cap) (lsQ false []).s, .bool (lsQ false []).b, .int .i64 (lsQ false []).e]) ∧ IntsI w' (.slice ad (lsQ false []).s.ms.length cap) (lsQ false []).s.ms ∧ Left W c p (lsE false false []) w') := fun W c D => by
    have hGe : false = false → [] = ([] : Bs) := by intro _; rfl
    have hq := ls_spd false false [] [] hGe
    have := load_any p c _ W D (ls_ok _ _ _ _ hGe (by simp <;> omega) (by simp <;> omega)) (by rw [hq]; simp only; rw [ls_rd]; simp <;> omega)
    rw [ls_ld _ _ _ _ hGe, hq] at this
    exact this
  have RD : Hid (∀ W c, DiskIs W c p (lsE false false []) → Calls Tryz.prog 10 #[.pointer (some ⟨p, 0, none⟩), .string ⟨#[115, 110, 97, 112, 46, 110, 101, 119]⟩] W fun e w' => e = .returned (.tuple #[.string ⟨#[]⟩, .int .i64 4]) ∧ Keep (fun _ => False) W w') := fun W c D => by
    have := read_any p c _ snw W D
    rw [ls_rdn] at this
    exact this
  have LN : Hid (∀ W, Calls Tryz.prog 9 #[.pointer none] W fun e w' => e = .returned (.tuple #[.agg #[.int .i64 0, .int .i64 0, .slice none 0 0, .string ⟨#[]⟩], .bool false, .int .i64 1]) ∧ Below W.heap.size W w') := fun W => load_nil W
  have WT : Hid (∀ W c, DiskIs W c p (lsE false false []) → Calls Tryz.prog 14 #[.pointer (some ⟨p, 0, none⟩)] W fun e w' => e = .returned (.int .i64 0) ∧ Below W.heap.size W w') := fun W c D => (waits_any p c _ W D).mono fun e w' ⟨he, hw⟩ => ⟨he, by subst hw; exact Below.refl _ _⟩
  have AW := hid (fun W => awake7 W)
  have HMQ : (lsQ false []).s.ms.length ≤ 9223372036854775807 := ls_ms _ _
  generalize lsQ false [] = Q at *
  have HML0 : Q.s.ms.length ≤ 9223372036854775807 := HMQ
  obtain ⟨S, qb, qe⟩ := Q
  simp only at RL LD HML0
  unfold shV at RL LD
  have hms : Hid (∀ (u z : Value) W, IntsI W u S.ms → IntsI W z S.ms → S.ms.length ≤ 9223372036854775807 → Calls Tryz.prog 12 #[.agg #[.int .i64 S.ix, .int .i64 S.tm, u, .string S.da], .agg #[.int .i64 S.ix, .int .i64 S.tm, z, .string S.da]] W fun e w' => e = .returned (.bool true) ∧ Below W.heap.size W w') := fun u z W hu hz hl => by
    have := rsame_any u z S S W hu hz hl
    rw [show smS S S = true from by simp [smS]] at this
    exact this
  obtain ⟨ix, tm, ms, da⟩ := S
  simp only at *
  have HML := hid HML0
  clear HMQ HML0
  generalize lsF false false [] [] = A0 at *
  generalize lsD false false [] [] = D1 at *
  generalize lsE false false [] = D2 at *
  clear hF hG hF' hG' tF tG hp
  go_enter Tryz.func3, Tryz.ntmps3
  go_wp2_with fail
  refine NW.out.mono ?_
  rintro e w1 ⟨rfl, hD, hk⟩
  have H0 := hid (left_same hD (Keep.refl _ w1))
  have HK := hid hk
  clear hD hk NW
  go_wp2_with fail
  refine (stepL H0.out SY.out).mono ?_
  rintro e wq1 ⟨rfl, hL⟩
  have H1 := hid hL
  clear hL H0 SY
  obtain ⟨⟨ci, DI, hci⟩, KI⟩ := H1.out
  have DIh := hid DI
  have HLs := hid (H1.out)
  clear DI hci KI H1
  go_wp2_with fail
  refine (FL.out _ _ DIh.out).mono ?_
  rintro e w3 ⟨v, rfl, ho, hk⟩
  have HV : Hid (FileRow w3 0 v A0) := ownsRow_base ho (Nat.zero_le _)
  have K3 := hid hk
  clear ho hk FL DIh
  go_wp2_with fail
  refine (RL.out _ _ HV.out).mono ?_
  rintro e w4 ⟨a1, c1, rfl, ho, hb⟩
  have O4 : Hid (OwnI w4 wq1.heap.size (.slice a1 ms.length c1) ms) := ownsRow_base ho K3.out.size
  have K4 : Hid (Keep (fun _ => False) wq1 (w4.alloc (.cells #[.int .i64 ix, .int .i64 tm, .slice a1 ms.length c1, .string da] 29))) := (K3.out.trans (hb.keep _)).trans (keep_alloc _ _ _)
  have HS4 : Hid (wq1.heap.size ≤ w4.heap.size) := Nat.le_trans K3.out.size hb.size
  have R4 : Hid (RowIs (w4.alloc (.cells #[.int .i64 ix, .int .i64 tm, .slice a1 ms.length c1, .string da] 29)) w4.heap.size [.int .i64 ix, .int .i64 tm, .slice a1 ms.length c1, .string da] 29) := srow w4 _ _
  have O5 := hid (own_new O4.out (.cells #[.int .i64 ix, .int .i64 tm, .slice a1 ms.length c1, .string da] 29))
  obtain ⟨c2, hL2, h7, htr⟩ := left_fresh HLs.out K4.out
  have L5 := hid hL2
  have H7 := hid h7
  have TR := hid htr
  clear hL2 h7 htr ho hb K3 O4 RL HV HLs
  go_wp2_with fail
  obtain ⟨⟨ci, DI, hci⟩, KI⟩ := L5.out
  have hLT : ∀ W, Left _ ci p D2 W → Left _ c2 p D2 W := fun W h => Left.trans hci KI h
  have HLT := hid hLT
  clear hLT
  refine (LD.out _ _ DI).mono ?_
  rintro e w6 ⟨a2, c3, rfl, hI, hL⟩
  have L6 := hid (HLT.out _ hL)
  clear HLT DI hci KI LD hL
  have I6 := hid hI
  clear hI
  have O6 : Hid (OwnI w6 wq1.heap.size (.slice a1 ms.length c1) ms) := fresh_row O5.out H7.out L6.out
  have R6 : Hid (RowIs w6 w4.heap.size [.int .i64 ix, .int .i64 tm, .slice a1 ms.length c1, .string da] 29) := R4.out.keep L6.out.2 (fun e => by have h8 := H7.out w4.heap.size HS4.out; have e' : c2 w4.heap.size < 6 := e; omega)
  have T6 := hid (TR.out _ _ L6.out)
  clear O5 R4 L5 L6 TR H7 K4
  have HS6 : Hid (w4.heap.size < w6.heap.size) := R6.out.lt
  have R7 : Hid (RowIs (w6.alloc (.cells #[.int .i64 ix, .int .i64 tm, .slice a2 ms.length c3, .string da] 34)) w6.heap.size [.int .i64 ix, .int .i64 tm, .slice a2 ms.length c3, .string da] 34) := srow w6 _ _
  have AL := hid (below_al (Below.refl w6.heap.size w6) (.cells #[.int .i64 ix, .int .i64 tm, .slice a2 ms.length c3, .string da] 34))
  have T7 := hid (T6.out.keepR (AL.out.keep _))
  clear T6
  go_wp2_with fail
  obtain ⟨⟨ci, DI, hci⟩, KI⟩ := T7.out
  refine (RD.out _ _ DI).mono ?_
  rintro e w8 ⟨rfl, hk⟩
  have B8 : Hid (Below (w6.alloc (.cells #[.int .i64 ix, .int .i64 tm, .slice a2 ms.length c3, .string da] 34)).heap.size (w6.alloc (.cells #[.int .i64 ix, .int .i64 tm, .slice a2 ms.length c3, .string da] 34)) w8) := keep_below hk (fun _ _ h => h.elim) (Nat.le_refl _)
  clear DI hci KI hk RD
  go_wp2_with fail
  refine (LN.out _).mono ?_
  rintro e w9 ⟨rfl, hb⟩
  have B9 := hid (below_al (below_on B8.out hb) (.cells #[.int .i64 0, .int .i64 0, .slice none 0 0, .string ⟨#[]⟩] 34))
  clear hb B8 LN
  have T9 := hid (T7.out.keepR (B9.out.keep _))
  have R9 := hid (R7.out.keep (B9.out.keep (fun _ => False)) (fun h => h))
  have I9 := hid ((I6.out.next AL.out).next B9.out)
  have O9 := hid ((O6.out.next AL.out).next B9.out)
  have V9 := hid ((R6.out.keep (AL.out.keep (fun _ => False)) (fun h => h)).keep (B9.out.keep (fun _ => False)) (fun h => h))
  have hml : Hid (ms.length ≤ 9223372036854775807) := HML
  clear T7 R7 I6 O6 R6 AL B9
  go_upto_region 8 with fail
  generalize w9.alloc (.cells #[.int .i64 0, .int .i64 0, .slice none 0 0, .string ⟨#[]⟩] 34) = X at *
  generalize w6.heap.size = q at *
  generalize w4.heap.size = q2 at *
  have ZC : Hid (∀ W, Below X.heap.size X W → (fun w' => w'.cell? ⟨q, 0, none⟩ = some (.int .i64 ix) ∧ w'.cell? ⟨q, 1, none⟩ = some (.int .i64 tm) ∧ w'.cell? ⟨q, 2, none⟩ = some (.slice a2 ms.length c3) ∧ w'.cell? ⟨q, 3, none⟩ = some (.string da) ∧ w'.cell? ⟨q2, 0, none⟩ = some (.int .i64 ix) ∧ w'.cell? ⟨q2, 1, none⟩ = some (.int .i64 tm) ∧ w'.cell? ⟨q2, 2, none⟩ = some (.slice a1 ms.length c1) ∧ w'.cell? ⟨q2, 3, none⟩ = some (.string da)) W) := fun W hW => by
    have m1 := R9.out.keep (hW.keep (fun _ => False)) (fun h => h)
    have m2 := V9.out.keep (hW.keep (fun _ => False)) (fun h => h)
    exact ⟨m1.cellAt rfl, m1.cellAt rfl, m1.cellAt rfl, m1.cellAt rfl, m2.cellAt rfl, m2.cellAt rfl, m2.cellAt rfl, m2.cellAt rfl⟩
  have AWX : Hid (∀ W, Below X.heap.size X W → Calls Tryz.prog 11 #[] W fun e w' => e = .returned (.bool true) ∧ Below W.heap.size W w') := fun W _ => AW.out W
  have RFX : Hid (∀ W, Below X.heap.size X W → Calls Tryz.prog 13 #[.agg #[.int .i64 ix, .int .i64 tm, .slice a2 ms.length c3, .string da]] W fun e w' => e = .returned (.agg #[.int .i64 ix, .int .i64 tm, .slice a2 ms.length c3, .string da]) ∧ Below W.heap.size W w') := fun W _ => refOf_any a2 ms.length c3 ⟨ix, tm, [], da⟩ W
  have SMX : Hid (∀ W, Below X.heap.size X W → Calls Tryz.prog 12 #[.agg #[.int .i64 ix, .int .i64 tm, .slice a2 ms.length c3, .string da], .agg #[.int .i64 ix, .int .i64 tm, .slice a1 ms.length c1, .string da]] W fun e w' => e = .returned (.bool true) ∧ Below W.heap.size W w') := fun W hW => hms.out _ _ W (I9.out.next hW) ((O9.out.next hW).ints) hml.out
  have WTX : Hid (∀ W, Below X.heap.size X W → Calls Tryz.prog 14 #[.pointer (some ⟨p, 0, none⟩)] W fun e w' => e = .returned (.int .i64 0) ∧ Below W.heap.size W w') := fun W hW => by
    obtain ⟨⟨ci, DI, hci⟩, KI⟩ := T9.out.keepR (hW.keep _)
    exact WT.out W ci DI
  have D0 := hid (Below.refl X.heap.size X).drew
  clear AW hms I9 O9 R9 V9 WT hml
  refine wp_region_held_drew (S := (fun w' => w'.cell? ⟨q, 0, none⟩ = some (.int .i64 ix) ∧ w'.cell? ⟨q, 1, none⟩ = some (.int .i64 tm) ∧ w'.cell? ⟨q, 2, none⟩ = some (.slice a2 ms.length c3) ∧ w'.cell? ⟨q, 3, none⟩ = some (.string da) ∧ w'.cell? ⟨q2, 0, none⟩ = some (.int .i64 ix) ∧ w'.cell? ⟨q2, 1, none⟩ = some (.int .i64 tm) ∧ w'.cell? ⟨q2, 2, none⟩ = some (.slice a1 ms.length c1) ∧ w'.cell? ⟨q2, 3, none⟩ = some (.string da))) (by kernel_rfl) (ZC.out _ D0.out) (fun hHeld => ?_)
  refine wpAnyH_ready (rs := [0]) (by kernel_rfl) (by simp) ?_
  refine AllReadyH.cons rfl (fun K hK => ?_) AllReadyH.nil
  go_simp
  refine (AWX.out _ D0.out).mono ?_
  rintro e wq1 ⟨rfl, bq⟩
  have BQ1 := hid (below_on D0.out bq)
  clear bq hHeld
  go_wp2_with fail
  refine hK.out _ _ (ZC.out _ BQ1.out) (fun hHeld => ?_)
  clear hK K
  try simp only [Act.put, List.getElem_toArray, List.getElem_cons_succ, List.getElem_cons_zero, List.setIfInBounds_toArray, List.set_cons_zero, List.set_cons_succ]
  refine wpAnyH_take (i := 1) (v := ?vv1) rfl (by kernel_rfl) (by kernel_rfl) (by kernel_rfl) (fun _ _ _ h => h) (Or.inl ⟨by rfl, ?hy1⟩) (by assumption) ?rest1
  case hy1 => (intro w hSw; (try dsimp only at hSw); go_simp; first | done | with_reducible rfl)
  try simp only [Act.put, List.getElem_toArray, List.getElem_cons_succ, List.getElem_cons_zero, List.setIfInBounds_toArray, List.set_cons_zero, List.set_cons_succ]
  refine wpAnyH_take (i := 2) (v := ?vv2) rfl (by kernel_rfl) (by kernel_rfl) (by kernel_rfl) (fun _ _ _ h => h) (Or.inl ⟨by rfl, ?hy2⟩) (by assumption) ?rest2
  case hy2 => (intro w hSw; (try dsimp only at hSw); go_simp; first | done | with_reducible rfl)
  try simp only [Act.put, List.getElem_toArray, List.getElem_cons_succ, List.getElem_cons_zero, List.setIfInBounds_toArray, List.set_cons_zero, List.set_cons_succ]
  refine wpAnyH_take (i := 3) (v := ?vv3) rfl (by kernel_rfl) (by kernel_rfl) (by kernel_rfl) (fun _ _ _ h => h) (Or.inl ⟨by rfl, ?hy3⟩) (by assumption) ?rest3
  case hy3 => (intro w hSw; (try dsimp only at hSw); go_simp; first | done | with_reducible rfl)
  try simp only [Act.put, List.getElem_toArray, List.getElem_cons_succ, List.getElem_cons_zero, List.setIfInBounds_toArray, List.set_cons_zero, List.set_cons_succ]
  refine wpAnyH_take (i := 4) (v := ?vv4) rfl (by kernel_rfl) (by kernel_rfl) (by kernel_rfl) (fun _ _ _ h => h) (Or.inl ⟨by rfl, ?hy4⟩) (by assumption) ?rest4
  case hy4 => (intro w hSw; (try dsimp only at hSw); go_simp; first | done | with_reducible rfl)
  try simp only [Act.put, List.getElem_toArray, List.getElem_cons_succ, List.getElem_cons_zero, List.setIfInBounds_toArray, List.set_cons_zero, List.set_cons_succ]
  refine wpAnyH_take (i := 5) (v := ?vv5) rfl (by kernel_rfl) (by kernel_rfl) (by kernel_rfl) (fun _ _ _ h => h) (Or.inl ⟨by rfl, ?hy5⟩) (by assumption) ?rest5
  case hy5 => (intro w hSw; (try dsimp only at hSw); go_simp; first | done | with_reducible rfl)
  try simp only [Act.put, List.getElem_toArray, List.getElem_cons_succ, List.getElem_cons_zero, List.setIfInBounds_toArray, List.set_cons_zero, List.set_cons_succ]
  refine wpAnyH_take (i := 6) (v := ?vv6) rfl (by kernel_rfl) (by kernel_rfl) (by kernel_rfl) (fun _ _ _ h => h) (Or.inl ⟨by rfl, ?hy6⟩) (by assumption) ?rest6
  case hy6 => (intro w hSw; (try dsimp only at hSw); go_simp; first | done | with_reducible rfl)
  try simp only [Act.put, List.getElem_toArray, List.getElem_cons_succ, List.getElem_cons_zero, List.setIfInBounds_toArray, List.set_cons_zero, List.set_cons_succ]
  refine wpAnyH_take (i := 7) (v := ?vv7) rfl (by kernel_rfl) (by kernel_rfl) (by kernel_rfl) (fun _ _ _ h => h) (Or.inl ⟨by rfl, ?hy7⟩) (by assumption) ?rest7
  case hy7 => (intro w hSw; (try dsimp only at hSw); go_simp; first | done | with_reducible rfl)
  try simp only [Act.put, List.getElem_toArray, List.getElem_cons_succ, List.getElem_cons_zero, List.setIfInBounds_toArray, List.set_cons_zero, List.set_cons_succ]
  refine wpAnyH_take (i := 8) (v := ?vv8) rfl (by kernel_rfl) (by kernel_rfl) (by kernel_rfl) (fun _ _ _ h => h) (Or.inl ⟨by rfl, ?hy8⟩) (by assumption) ?rest8
  case hy8 => (intro w hSw; (try dsimp only at hSw); go_simp; first | done | with_reducible rfl)
  try simp only [Act.put, List.getElem_toArray, List.getElem_cons_succ, List.getElem_cons_zero, List.setIfInBounds_toArray, List.set_cons_zero, List.set_cons_succ]
  refine wpAnyH_take (i := 9) (v := ?vv9) rfl (by kernel_rfl) (by kernel_rfl) (by kernel_rfl) (fun _ _ _ h => h) (Or.inl ⟨by rfl, ?hy9⟩) (by assumption) ?rest9
  case hy9 => (intro w hSw; (try dsimp only at hSw); go_simp; first | done | with_reducible rfl)
  try simp only [Act.put, List.getElem_toArray, List.getElem_cons_succ, List.getElem_cons_zero, List.setIfInBounds_toArray, List.set_cons_zero, List.set_cons_succ]
  refine wpAnyH_take (i := 10) (v := ?vv10) rfl (by kernel_rfl) (by kernel_rfl) (by kernel_rfl) (fun _ _ _ h => h) (Or.inl ⟨by rfl, ?hy10⟩) (by assumption) ?rest10
  case hy10 => (intro w hSw; (try dsimp only at hSw); go_simp; first | done | with_reducible rfl)
  try simp only [Act.put, List.getElem_toArray, List.getElem_cons_succ, List.getElem_cons_zero, List.setIfInBounds_toArray, List.set_cons_zero, List.set_cons_succ]
  refine wpAnyH_take (i := 11) (v := ?vv11) rfl (by kernel_rfl) (by kernel_rfl) (by kernel_rfl) (fun _ _ _ h => h) (Or.inl ⟨by rfl, ?hy11⟩) (by assumption) ?rest11
  case hy11 => (intro w hSw; (try dsimp only at hSw); go_simp; first | done | with_reducible rfl)
  try simp only [Act.put, List.getElem_toArray, List.getElem_cons_succ, List.getElem_cons_zero, List.setIfInBounds_toArray, List.set_cons_zero, List.set_cons_succ]
  refine wpAnyH_take (i := 12) (v := ?vv12) rfl (by kernel_rfl) (by kernel_rfl) (by kernel_rfl) (fun _ _ _ h => h) (Or.inl ⟨by rfl, ?hy12⟩) (by assumption) ?rest12
  case hy12 => (intro w hSw; (try dsimp only at hSw); go_simp; first | done | with_reducible rfl)
  try simp only [Act.put, List.getElem_toArray, List.getElem_cons_succ, List.getElem_cons_zero, List.setIfInBounds_toArray, List.set_cons_zero, List.set_cons_succ]
  refine wpAnyH_take (i := 14) (v := ?vv13) rfl (by kernel_rfl) (by kernel_rfl) (by kernel_rfl) (fun _ _ _ h => h) (Or.inl ⟨by rfl, ?hy13⟩) (by assumption) ?rest13
  case hy13 => (intro w hSw; (try dsimp only at hSw); go_simp; first | done | with_reducible rfl)
  try simp only [Act.put, List.getElem_toArray, List.getElem_cons_succ, List.getElem_cons_zero, List.setIfInBounds_toArray, List.set_cons_zero, List.set_cons_succ]
  refine wpAnyH_ready (rs := [13]) (by kernel_rfl) (by simp) ?_
  refine AllReadyH.cons rfl (fun K hK => ?_) AllReadyH.nil
  go_simp
  refine (RFX.out _ BQ1.out).mono ?_
  rintro e wq2 ⟨rfl, bq⟩
  have BQ2 := hid (below_on BQ1.out bq)
  clear bq hHeld
  go_wp2_with fail
  refine hK.out _ _ (ZC.out _ BQ2.out) (fun hHeld => ?_)
  clear hK K
  try simp only [Act.put, List.getElem_toArray, List.getElem_cons_succ, List.getElem_cons_zero, List.setIfInBounds_toArray, List.set_cons_zero, List.set_cons_succ]
  refine wpAnyH_ready (rs := [15]) (by kernel_rfl) (by simp) ?_
  refine AllReadyH.cons rfl (fun K hK => ?_) AllReadyH.nil
  go_simp
  refine (SMX.out _ BQ2.out).mono ?_
  rintro e wq3 ⟨rfl, bq⟩
  have BQ3 := hid (below_on BQ2.out bq)
  clear bq hHeld
  go_wp2_with fail
  refine hK.out _ _ (ZC.out _ BQ3.out) (fun hHeld => ?_)
  clear hK K
  try simp only [Act.put, List.getElem_toArray, List.getElem_cons_succ, List.getElem_cons_zero, List.setIfInBounds_toArray, List.set_cons_zero, List.set_cons_succ]
  refine wpAnyH_take (i := 16) (v := ?vv14) rfl (by kernel_rfl) (by kernel_rfl) (by kernel_rfl) (fun _ _ _ h => h) (Or.inl ⟨by rfl, ?hy14⟩) (by assumption) ?rest14
  case hy14 => (intro w hSw; (try dsimp only at hSw); go_simp; first | done | with_reducible rfl)
  try simp only [Act.put, List.getElem_toArray, List.getElem_cons_succ, List.getElem_cons_zero, List.setIfInBounds_toArray, List.set_cons_zero, List.set_cons_succ]
  refine wpAnyH_take (i := 17) (v := ?vv15) rfl (by kernel_rfl) (by kernel_rfl) (by kernel_rfl) (fun _ _ _ h => h) (Or.inl ⟨by rfl, ?hy15⟩) (by assumption) ?rest15
  case hy15 => (intro w hSw; (try dsimp only at hSw); go_simp; first | done | with_reducible rfl)
  try simp only [Act.put, List.getElem_toArray, List.getElem_cons_succ, List.getElem_cons_zero, List.setIfInBounds_toArray, List.set_cons_zero, List.set_cons_succ]
  refine wpAnyH_take (i := 18) (v := ?vv16) rfl (by kernel_rfl) (by kernel_rfl) (by kernel_rfl) (fun _ _ _ h => h) (Or.inl ⟨by rfl, ?hy16⟩) (by assumption) ?rest16
  case hy16 => (intro w hSw; (try dsimp only at hSw); go_simp; first | done | with_reducible rfl)
  try simp only [Act.put, List.getElem_toArray, List.getElem_cons_succ, List.getElem_cons_zero, List.setIfInBounds_toArray, List.set_cons_zero, List.set_cons_succ]
  refine wpAnyH_take (i := 19) (v := ?vv17) rfl (by kernel_rfl) (by kernel_rfl) (by kernel_rfl) (fun _ _ _ h => h) (Or.inl ⟨by rfl, ?hy17⟩) (by assumption) ?rest17
  case hy17 => (intro w hSw; (try dsimp only at hSw); go_simp; first | done | with_reducible rfl)
  try simp only [Act.put, List.getElem_toArray, List.getElem_cons_succ, List.getElem_cons_zero, List.setIfInBounds_toArray, List.set_cons_zero, List.set_cons_succ]
  refine wpAnyH_take (i := 20) (v := ?vv18) rfl (by kernel_rfl) (by kernel_rfl) (by kernel_rfl) (fun _ _ _ h => h) (Or.inl ⟨by rfl, ?hy18⟩) (by assumption) ?rest18
  case hy18 => (intro w hSw; (try dsimp only at hSw); go_simp; first | done | with_reducible rfl)
  try simp only [Act.put, List.getElem_toArray, List.getElem_cons_succ, List.getElem_cons_zero, List.setIfInBounds_toArray, List.set_cons_zero, List.set_cons_succ]
  refine wpAnyH_take (i := 21) (v := ?vv19) rfl (by kernel_rfl) (by kernel_rfl) (by kernel_rfl) (fun _ _ _ h => h) (Or.inl ⟨by rfl, ?hy19⟩) (by assumption) ?rest19
  case hy19 => (intro w hSw; (try dsimp only at hSw); go_simp; first | done | with_reducible rfl)
  try simp only [Act.put, List.getElem_toArray, List.getElem_cons_succ, List.getElem_cons_zero, List.setIfInBounds_toArray, List.set_cons_zero, List.set_cons_succ]
  refine wpAnyH_take (i := 22) (v := ?vv20) rfl (by kernel_rfl) (by kernel_rfl) (by kernel_rfl) (fun _ _ _ h => h) (Or.inl ⟨by rfl, ?hy20⟩) (by assumption) ?rest20
  case hy20 => (intro w hSw; (try dsimp only at hSw); go_simp; first | done | with_reducible rfl)
  try simp only [Act.put, List.getElem_toArray, List.getElem_cons_succ, List.getElem_cons_zero, List.setIfInBounds_toArray, List.set_cons_zero, List.set_cons_succ]
  refine wpAnyH_take (i := 23) (v := ?vv21) rfl (by kernel_rfl) (by kernel_rfl) (by kernel_rfl) (fun _ _ _ h => h) (Or.inl ⟨by rfl, ?hy21⟩) (by assumption) ?rest21
  case hy21 => (intro w hSw; (try dsimp only at hSw); go_simp; first | done | with_reducible rfl)
  try simp only [Act.put, List.getElem_toArray, List.getElem_cons_succ, List.getElem_cons_zero, List.setIfInBounds_toArray, List.set_cons_zero, List.set_cons_succ]
  refine wpAnyH_take (i := 24) (v := ?vv22) rfl (by kernel_rfl) (by kernel_rfl) (by kernel_rfl) (fun _ _ _ h => h) (Or.inl ⟨by rfl, ?hy22⟩) (by assumption) ?rest22
  case hy22 => (intro w hSw; (try dsimp only at hSw); go_simp; first | done | with_reducible rfl)
  try simp only [Act.put, List.getElem_toArray, List.getElem_cons_succ, List.getElem_cons_zero, List.setIfInBounds_toArray, List.set_cons_zero, List.set_cons_succ]
  refine wpAnyH_take (i := 25) (v := ?vv23) rfl (by kernel_rfl) (by kernel_rfl) (by kernel_rfl) (fun _ _ _ h => h) (Or.inl ⟨by rfl, ?hy23⟩) (by assumption) ?rest23
  case hy23 => (intro w hSw; (try dsimp only at hSw); go_simp; first | done | with_reducible rfl)
  try simp only [Act.put, List.getElem_toArray, List.getElem_cons_succ, List.getElem_cons_zero, List.setIfInBounds_toArray, List.set_cons_zero, List.set_cons_succ]
  refine wpAnyH_take (i := 26) (v := ?vv24) rfl (by kernel_rfl) (by kernel_rfl) (by kernel_rfl) (fun _ _ _ h => h) (Or.inl ⟨by rfl, ?hy24⟩) (by assumption) ?rest24
  case hy24 => (intro w hSw; (try dsimp only at hSw); go_simp; first | done | with_reducible rfl)
  try simp only [Act.put, List.getElem_toArray, List.getElem_cons_succ, List.getElem_cons_zero, List.setIfInBounds_toArray, List.set_cons_zero, List.set_cons_succ]
  refine wpAnyH_ready (rs := [27]) (by kernel_rfl) (by simp) ?_
  refine AllReadyH.cons rfl (fun K hK => ?_) AllReadyH.nil
  go_simp
  refine (WTX.out _ BQ3.out).mono ?_
  rintro e wq4 ⟨rfl, bq⟩
  have BQ4 := hid (below_on BQ3.out bq)
  clear bq hHeld
  go_wp2_with fail
  refine hK.out _ _ (ZC.out _ BQ4.out) (fun hHeld => ?_)
  clear hK K
  try simp only [Act.put, List.getElem_toArray, List.getElem_cons_succ, List.getElem_cons_zero, List.setIfInBounds_toArray, List.set_cons_zero, List.set_cons_succ]
  refine wpAnyH_take (i := 28) (v := ?vv25) rfl (by kernel_rfl) (by kernel_rfl) (by kernel_rfl) (fun _ _ _ h => h) (Or.inl ⟨by rfl, ?hy25⟩) (by assumption) ?rest25
  case hy25 => (intro w hSw; (try dsimp only at hSw); go_simp; first | done | with_reducible rfl)
  try simp only [Act.put, List.getElem_toArray, List.getElem_cons_succ, List.getElem_cons_zero, List.setIfInBounds_toArray, List.set_cons_zero, List.set_cons_succ]
  refine wpAnyH_take (i := 29) (v := ?vv26) rfl (by kernel_rfl) (by kernel_rfl) (by kernel_rfl) (fun _ _ _ h => h) (Or.inl ⟨by rfl, ?hy26⟩) (by assumption) ?rest26
  case hy26 => (intro w hSw; (try dsimp only at hSw); go_simp; first | done | with_reducible rfl)
  try simp only [Act.put, List.getElem_toArray, List.getElem_cons_succ, List.getElem_cons_zero, List.setIfInBounds_toArray, List.set_cons_zero, List.set_cons_succ]
  refine wpAnyH_take (i := 30) (v := ?vv27) rfl (by kernel_rfl) (by kernel_rfl) (by kernel_rfl) (fun _ _ _ h => h) (Or.inl ⟨by rfl, ?hy27⟩) (by assumption) ?rest27
  case hy27 => (intro w hSw; (try dsimp only at hSw); go_simp; first | done | with_reducible rfl)
  try simp only [Act.put, List.getElem_toArray, List.getElem_cons_succ, List.getElem_cons_zero, List.setIfInBounds_toArray, List.set_cons_zero, List.set_cons_succ]
  refine wpAnyH_done (by kernel_rfl) ?_ _
  clear hHeld ZC
  go_wp2
  go_ret
  have k : Keep (fun k => c0 p k < 6) w _ := (HK.out.mono (fun _ _ h => h.elim)).trans (T9.out.keepR (BQ4.out.keep _)).2
  refine ⟨rfl, keep_below k (fun j hj h => ?_) (Nat.le_refl _)⟩
  have h' : (if j = p then 0 else 7) < 6 := h
  rw [if_neg (by have := HP.out; omega)] at h'
  omega
set_option maxRecDepth 100000 in
set_option maxHeartbeats 4000000 in
theorem loads_10 (F G : ByteArray) (x : Int) (w : World) (hF : F.size ≤ 1048576) (hG : G.size ≤ 1048576) (hx1 : (bits .and .i64 x 1 == 1) = true) (hx2 : (bits .and .i64 x 2 == 2) = false) : Calls Tryz.prog 3 #[.string F, .string G, .int .i64 x] w fun e w' => e = .returned (.bool true) ∧ Below w.heap.size w w' := by
  have NW := hid (new_any w)
  obtain ⟨p, hp⟩ : ∃ p, p = w.heap.size := ⟨_, rfl⟩
  have HP := hid hp
  rw [← hp] at NW
  have hF' : F.data.toList.length ≤ 1048576 := hF
  have hG' : G.data.toList.length ≤ 1048576 := hG
  have tF : tx F.data.toList = F := rfl
  have tG : tx G.data.toList = G := rfl
  have W0 : Hid (∀ W c, DiskIs W c p d0 → Calls Tryz.prog 5 #[.pointer (some ⟨p, 0, none⟩), .string ⟨#[115, 110, 97, 112]⟩, .string F] W fun e w' => e = .returned (.int .i64 0) ∧ Left W c p ⟨[], [⟨1, snp, [], F.data.toList, 0⟩], 1, [], false, 0, false⟩ w') := fun W c D => by
    have := write_any p c d0 snp F.data.toList W D (by simp [d0, Ds.wt, tot, snp] <;> omega) (by simp [d0])
    rw [ls_w0] at this
    exact this
  have SY : Hid (∀ W c, DiskIs W c p ⟨[], [⟨1, snp, [], F.data.toList, 0⟩], 1, [], false, 0, false⟩ → Calls Tryz.prog 6 #[.pointer (some ⟨p, 0, none⟩)] W fun e w' => e = .returned (.int .i64 0) ∧ Left W c p (lsD true false F.data.toList []) w') := fun W c D => by
    have := sync_all p c _ W D (by simp [d0, Ds.wt, tot] <;> omega)
    rw [ls_s10] at this
    exact this
  have FL : Hid (∀ W c, DiskIs W c p (lsD true false F.data.toList []) → Calls Tryz.prog 8 #[.pointer (some ⟨p, 0, none⟩)] W fun e w' => ∃ v, e = .returned v ∧ w'.ownsRow W.heap.size 63 2 v (lsF true false F.data.toList []).length (fC (lsF true false F.data.toList [])) ∧ Keep (fun _ => False) W w') := fun W c D => files_any p c _ W D rfl (by rw [ls_now]; have := ls_len true false F.data.toList []; omega) (ls_nm _ _ _ _) (ls_srt _ _ _ _)
  have RL : Hid (∀ v W, FileRow W 0 v (lsF true false F.data.toList []) → Calls Tryz.prog 7 #[v] W fun e w' => ∃ ad cap, e = .returned (.tuple #[shV (.slice ad (lsQ true F.data.toList).s.ms.length cap) (lsQ true F.data.toList).s, .bool (lsQ true F.data.toList).b, .int .i64 (lsQ true F.data.toList).e]) ∧ OwnI w' W.heap.size (.slice ad (lsQ true F.data.toList).s.ms.length cap) (lsQ true F.data.toList).s.ms ∧ Below W.heap.size W w') := fun v W h => by
    have := rload_any _ v W h (ls_srt _ _ _ _) (by have := ls_len true false F.data.toList []; omega) (fun y hy => by simp [lsF] at hy; subst hy; simp only; omega)
    rw [ls_rl] at this
    exact this
  have LD : Hid (∀ W c, DiskIs W c p (lsD true false F.data.toList []) → Calls Tryz.prog 9 #[.pointer (some ⟨p, 0, none⟩)] W fun e w' => ∃ ad cap, e = .returned (.tuple #[shV (.slice ad (lsQ true F.data.toList).s.ms.length cap) (lsQ true F.data.toList).s, .bool (lsQ true F.data.toList).b, .int .i64 (lsQ true F.data.toList).e]) ∧ IntsI w' (.slice ad (lsQ true F.data.toList).s.ms.length cap) (lsQ true F.data.toList).s.ms ∧ Left W c p (lsE true false F.data.toList) w') := fun W c D => by
    have hGe : false = false → [] = ([] : Bs) := by intro _; rfl
    have hq := ls_spd true false F.data.toList [] hGe
    have := load_any p c _ W D (ls_ok _ _ _ _ hGe (by simp <;> omega) (by simp <;> omega)) (by rw [hq]; simp only; rw [ls_rd]; simp <;> omega)
    rw [ls_ld _ _ _ _ hGe, hq] at this
    exact this
  have RD : Hid (∀ W c, DiskIs W c p (lsE true false F.data.toList) → Calls Tryz.prog 10 #[.pointer (some ⟨p, 0, none⟩), .string ⟨#[115, 110, 97, 112, 46, 110, 101, 119]⟩] W fun e w' => e = .returned (.tuple #[.string ⟨#[]⟩, .int .i64 4]) ∧ Keep (fun _ => False) W w') := fun W c D => by
    have := read_any p c _ snw W D
    rw [ls_rdn] at this
    exact this
  have LN : Hid (∀ W, Calls Tryz.prog 9 #[.pointer none] W fun e w' => e = .returned (.tuple #[.agg #[.int .i64 0, .int .i64 0, .slice none 0 0, .string ⟨#[]⟩], .bool false, .int .i64 1]) ∧ Below W.heap.size W w') := fun W => load_nil W
  have WT : Hid (∀ W c, DiskIs W c p (lsE true false F.data.toList) → Calls Tryz.prog 14 #[.pointer (some ⟨p, 0, none⟩)] W fun e w' => e = .returned (.int .i64 0) ∧ Below W.heap.size W w') := fun W c D => (waits_any p c _ W D).mono fun e w' ⟨he, hw⟩ => ⟨he, by subst hw; exact Below.refl _ _⟩
  have AW := hid (fun W => awake7 W)
  have HMQ : (lsQ true F.data.toList).s.ms.length ≤ 9223372036854775807 := ls_ms _ _
  generalize lsQ true F.data.toList = Q at *
  have HML0 : Q.s.ms.length ≤ 9223372036854775807 := HMQ
  obtain ⟨S, qb, qe⟩ := Q
  simp only at RL LD HML0
  unfold shV at RL LD
  have hms : Hid (∀ (u z : Value) W, IntsI W u S.ms → IntsI W z S.ms → S.ms.length ≤ 9223372036854775807 → Calls Tryz.prog 12 #[.agg #[.int .i64 S.ix, .int .i64 S.tm, u, .string S.da], .agg #[.int .i64 S.ix, .int .i64 S.tm, z, .string S.da]] W fun e w' => e = .returned (.bool true) ∧ Below W.heap.size W w') := fun u z W hu hz hl => by
    have := rsame_any u z S S W hu hz hl
    rw [show smS S S = true from by simp [smS]] at this
    exact this
  obtain ⟨ix, tm, ms, da⟩ := S
  simp only at *
  have HML := hid HML0
  clear HMQ HML0
  generalize lsF true false F.data.toList [] = A0 at *
  generalize lsD true false F.data.toList [] = D1 at *
  generalize lsE true false F.data.toList = D2 at *
  generalize (⟨[], [⟨1, snp, [], F.data.toList, 0⟩], 1, [], false, 0, false⟩ : Ds) = Da at *
  clear hF hG hF' hG' tF tG hp
  go_enter Tryz.func3, Tryz.ntmps3
  go_wp2_with fail
  refine NW.out.mono ?_
  rintro e w1 ⟨rfl, hD, hk⟩
  have H0 := hid (left_same hD (Keep.refl _ w1))
  have HK := hid hk
  clear hD hk NW
  go_wp2_with fail
  refine (stepL H0.out W0.out).mono ?_
  rintro e wq1 ⟨rfl, hL⟩
  have H1 := hid hL
  clear hL H0 W0
  go_wp2_with fail
  refine (stepL H1.out SY.out).mono ?_
  rintro e wq2 ⟨rfl, hL⟩
  have H2 := hid hL
  clear hL H1 SY
  obtain ⟨⟨ci, DI, hci⟩, KI⟩ := H2.out
  have DIh := hid DI
  have HLs := hid (H2.out)
  clear DI hci KI H2
  go_wp2_with fail
  refine (FL.out _ _ DIh.out).mono ?_
  rintro e w3 ⟨v, rfl, ho, hk⟩
  have HV : Hid (FileRow w3 0 v A0) := ownsRow_base ho (Nat.zero_le _)
  have K3 := hid hk
  clear ho hk FL DIh
  go_wp2_with fail
  refine (RL.out _ _ HV.out).mono ?_
  rintro e w4 ⟨a1, c1, rfl, ho, hb⟩
  have O4 : Hid (OwnI w4 wq2.heap.size (.slice a1 ms.length c1) ms) := ownsRow_base ho K3.out.size
  have K4 : Hid (Keep (fun _ => False) wq2 (w4.alloc (.cells #[.int .i64 ix, .int .i64 tm, .slice a1 ms.length c1, .string da] 29))) := (K3.out.trans (hb.keep _)).trans (keep_alloc _ _ _)
  have HS4 : Hid (wq2.heap.size ≤ w4.heap.size) := Nat.le_trans K3.out.size hb.size
  have R4 : Hid (RowIs (w4.alloc (.cells #[.int .i64 ix, .int .i64 tm, .slice a1 ms.length c1, .string da] 29)) w4.heap.size [.int .i64 ix, .int .i64 tm, .slice a1 ms.length c1, .string da] 29) := srow w4 _ _
  have O5 := hid (own_new O4.out (.cells #[.int .i64 ix, .int .i64 tm, .slice a1 ms.length c1, .string da] 29))
  obtain ⟨c2, hL2, h7, htr⟩ := left_fresh HLs.out K4.out
  have L5 := hid hL2
  have H7 := hid h7
  have TR := hid htr
  clear hL2 h7 htr ho hb K3 O4 RL HV HLs
  go_wp2_with fail
  obtain ⟨⟨ci, DI, hci⟩, KI⟩ := L5.out
  have hLT : ∀ W, Left _ ci p D2 W → Left _ c2 p D2 W := fun W h => Left.trans hci KI h
  have HLT := hid hLT
  clear hLT
  refine (LD.out _ _ DI).mono ?_
  rintro e w6 ⟨a2, c3, rfl, hI, hL⟩
  have L6 := hid (HLT.out _ hL)
  clear HLT DI hci KI LD hL
  have I6 := hid hI
  clear hI
  have O6 : Hid (OwnI w6 wq2.heap.size (.slice a1 ms.length c1) ms) := fresh_row O5.out H7.out L6.out
  have R6 : Hid (RowIs w6 w4.heap.size [.int .i64 ix, .int .i64 tm, .slice a1 ms.length c1, .string da] 29) := R4.out.keep L6.out.2 (fun e => by have h8 := H7.out w4.heap.size HS4.out; have e' : c2 w4.heap.size < 6 := e; omega)
  have T6 := hid (TR.out _ _ L6.out)
  clear O5 R4 L5 L6 TR H7 K4
  have HS6 : Hid (w4.heap.size < w6.heap.size) := R6.out.lt
  have R7 : Hid (RowIs (w6.alloc (.cells #[.int .i64 ix, .int .i64 tm, .slice a2 ms.length c3, .string da] 34)) w6.heap.size [.int .i64 ix, .int .i64 tm, .slice a2 ms.length c3, .string da] 34) := srow w6 _ _
  have AL := hid (below_al (Below.refl w6.heap.size w6) (.cells #[.int .i64 ix, .int .i64 tm, .slice a2 ms.length c3, .string da] 34))
  have T7 := hid (T6.out.keepR (AL.out.keep _))
  clear T6
  go_wp2_with fail
  obtain ⟨⟨ci, DI, hci⟩, KI⟩ := T7.out
  refine (RD.out _ _ DI).mono ?_
  rintro e w8 ⟨rfl, hk⟩
  have B8 : Hid (Below (w6.alloc (.cells #[.int .i64 ix, .int .i64 tm, .slice a2 ms.length c3, .string da] 34)).heap.size (w6.alloc (.cells #[.int .i64 ix, .int .i64 tm, .slice a2 ms.length c3, .string da] 34)) w8) := keep_below hk (fun _ _ h => h.elim) (Nat.le_refl _)
  clear DI hci KI hk RD
  go_wp2_with fail
  refine (LN.out _).mono ?_
  rintro e w9 ⟨rfl, hb⟩
  have B9 := hid (below_al (below_on B8.out hb) (.cells #[.int .i64 0, .int .i64 0, .slice none 0 0, .string ⟨#[]⟩] 34))
  clear hb B8 LN
  have T9 := hid (T7.out.keepR (B9.out.keep _))
  have R9 := hid (R7.out.keep (B9.out.keep (fun _ => False)) (fun h => h))
  have I9 := hid ((I6.out.next AL.out).next B9.out)
  have O9 := hid ((O6.out.next AL.out).next B9.out)
  have V9 := hid ((R6.out.keep (AL.out.keep (fun _ => False)) (fun h => h)).keep (B9.out.keep (fun _ => False)) (fun h => h))
  have hml : Hid (ms.length ≤ 9223372036854775807) := HML
  clear T7 R7 I6 O6 R6 AL B9
  go_upto_region 8 with fail
  generalize w9.alloc (.cells #[.int .i64 0, .int .i64 0, .slice none 0 0, .string ⟨#[]⟩] 34) = X at *
  generalize w6.heap.size = q at *
  generalize w4.heap.size = q2 at *
  have ZC : Hid (∀ W, Below X.heap.size X W → (fun w' => w'.cell? ⟨q, 0, none⟩ = some (.int .i64 ix) ∧ w'.cell? ⟨q, 1, none⟩ = some (.int .i64 tm) ∧ w'.cell? ⟨q, 2, none⟩ = some (.slice a2 ms.length c3) ∧ w'.cell? ⟨q, 3, none⟩ = some (.string da) ∧ w'.cell? ⟨q2, 0, none⟩ = some (.int .i64 ix) ∧ w'.cell? ⟨q2, 1, none⟩ = some (.int .i64 tm) ∧ w'.cell? ⟨q2, 2, none⟩ = some (.slice a1 ms.length c1) ∧ w'.cell? ⟨q2, 3, none⟩ = some (.string da)) W) := fun W hW => by
    have m1 := R9.out.keep (hW.keep (fun _ => False)) (fun h => h)
    have m2 := V9.out.keep (hW.keep (fun _ => False)) (fun h => h)
    exact ⟨m1.cellAt rfl, m1.cellAt rfl, m1.cellAt rfl, m1.cellAt rfl, m2.cellAt rfl, m2.cellAt rfl, m2.cellAt rfl, m2.cellAt rfl⟩
  have AWX : Hid (∀ W, Below X.heap.size X W → Calls Tryz.prog 11 #[] W fun e w' => e = .returned (.bool true) ∧ Below W.heap.size W w') := fun W _ => AW.out W
  have RFX : Hid (∀ W, Below X.heap.size X W → Calls Tryz.prog 13 #[.agg #[.int .i64 ix, .int .i64 tm, .slice a2 ms.length c3, .string da]] W fun e w' => e = .returned (.agg #[.int .i64 ix, .int .i64 tm, .slice a2 ms.length c3, .string da]) ∧ Below W.heap.size W w') := fun W _ => refOf_any a2 ms.length c3 ⟨ix, tm, [], da⟩ W
  have SMX : Hid (∀ W, Below X.heap.size X W → Calls Tryz.prog 12 #[.agg #[.int .i64 ix, .int .i64 tm, .slice a2 ms.length c3, .string da], .agg #[.int .i64 ix, .int .i64 tm, .slice a1 ms.length c1, .string da]] W fun e w' => e = .returned (.bool true) ∧ Below W.heap.size W w') := fun W hW => hms.out _ _ W (I9.out.next hW) ((O9.out.next hW).ints) hml.out
  have WTX : Hid (∀ W, Below X.heap.size X W → Calls Tryz.prog 14 #[.pointer (some ⟨p, 0, none⟩)] W fun e w' => e = .returned (.int .i64 0) ∧ Below W.heap.size W w') := fun W hW => by
    obtain ⟨⟨ci, DI, hci⟩, KI⟩ := T9.out.keepR (hW.keep _)
    exact WT.out W ci DI
  have D0 := hid (Below.refl X.heap.size X).drew
  clear AW hms I9 O9 R9 V9 WT hml
  refine wp_region_held_drew (S := (fun w' => w'.cell? ⟨q, 0, none⟩ = some (.int .i64 ix) ∧ w'.cell? ⟨q, 1, none⟩ = some (.int .i64 tm) ∧ w'.cell? ⟨q, 2, none⟩ = some (.slice a2 ms.length c3) ∧ w'.cell? ⟨q, 3, none⟩ = some (.string da) ∧ w'.cell? ⟨q2, 0, none⟩ = some (.int .i64 ix) ∧ w'.cell? ⟨q2, 1, none⟩ = some (.int .i64 tm) ∧ w'.cell? ⟨q2, 2, none⟩ = some (.slice a1 ms.length c1) ∧ w'.cell? ⟨q2, 3, none⟩ = some (.string da))) (by kernel_rfl) (ZC.out _ D0.out) (fun hHeld => ?_)
  refine wpAnyH_ready (rs := [0]) (by kernel_rfl) (by simp) ?_
  refine AllReadyH.cons rfl (fun K hK => ?_) AllReadyH.nil
  go_simp
  refine (AWX.out _ D0.out).mono ?_
  rintro e wq5 ⟨rfl, bq⟩
  have BQ5 := hid (below_on D0.out bq)
  clear bq hHeld
  go_wp2_with fail
  refine hK.out _ _ (ZC.out _ BQ5.out) (fun hHeld => ?_)
  clear hK K
  try simp only [Act.put, List.getElem_toArray, List.getElem_cons_succ, List.getElem_cons_zero, List.setIfInBounds_toArray, List.set_cons_zero, List.set_cons_succ]
  refine wpAnyH_take (i := 1) (v := ?vv28) rfl (by kernel_rfl) (by kernel_rfl) (by kernel_rfl) (fun _ _ _ h => h) (Or.inl ⟨by rfl, ?hy28⟩) (by assumption) ?rest28
  case hy28 => (intro w hSw; (try dsimp only at hSw); go_simp; first | done | with_reducible rfl)
  try simp only [Act.put, List.getElem_toArray, List.getElem_cons_succ, List.getElem_cons_zero, List.setIfInBounds_toArray, List.set_cons_zero, List.set_cons_succ]
  refine wpAnyH_take (i := 2) (v := ?vv29) rfl (by kernel_rfl) (by kernel_rfl) (by kernel_rfl) (fun _ _ _ h => h) (Or.inl ⟨by rfl, ?hy29⟩) (by assumption) ?rest29
  case hy29 => (intro w hSw; (try dsimp only at hSw); go_simp; first | done | with_reducible rfl)
  try simp only [Act.put, List.getElem_toArray, List.getElem_cons_succ, List.getElem_cons_zero, List.setIfInBounds_toArray, List.set_cons_zero, List.set_cons_succ]
  refine wpAnyH_take (i := 3) (v := ?vv30) rfl (by kernel_rfl) (by kernel_rfl) (by kernel_rfl) (fun _ _ _ h => h) (Or.inl ⟨by rfl, ?hy30⟩) (by assumption) ?rest30
  case hy30 => (intro w hSw; (try dsimp only at hSw); go_simp; first | done | with_reducible rfl)
  try simp only [Act.put, List.getElem_toArray, List.getElem_cons_succ, List.getElem_cons_zero, List.setIfInBounds_toArray, List.set_cons_zero, List.set_cons_succ]
  refine wpAnyH_take (i := 4) (v := ?vv31) rfl (by kernel_rfl) (by kernel_rfl) (by kernel_rfl) (fun _ _ _ h => h) (Or.inl ⟨by rfl, ?hy31⟩) (by assumption) ?rest31
  case hy31 => (intro w hSw; (try dsimp only at hSw); go_simp; first | done | with_reducible rfl)
  try simp only [Act.put, List.getElem_toArray, List.getElem_cons_succ, List.getElem_cons_zero, List.setIfInBounds_toArray, List.set_cons_zero, List.set_cons_succ]
  refine wpAnyH_take (i := 5) (v := ?vv32) rfl (by kernel_rfl) (by kernel_rfl) (by kernel_rfl) (fun _ _ _ h => h) (Or.inl ⟨by rfl, ?hy32⟩) (by assumption) ?rest32
  case hy32 => (intro w hSw; (try dsimp only at hSw); go_simp; first | done | with_reducible rfl)
  try simp only [Act.put, List.getElem_toArray, List.getElem_cons_succ, List.getElem_cons_zero, List.setIfInBounds_toArray, List.set_cons_zero, List.set_cons_succ]
  refine wpAnyH_take (i := 6) (v := ?vv33) rfl (by kernel_rfl) (by kernel_rfl) (by kernel_rfl) (fun _ _ _ h => h) (Or.inl ⟨by rfl, ?hy33⟩) (by assumption) ?rest33
  case hy33 => (intro w hSw; (try dsimp only at hSw); go_simp; first | done | with_reducible rfl)
  try simp only [Act.put, List.getElem_toArray, List.getElem_cons_succ, List.getElem_cons_zero, List.setIfInBounds_toArray, List.set_cons_zero, List.set_cons_succ]
  refine wpAnyH_take (i := 7) (v := ?vv34) rfl (by kernel_rfl) (by kernel_rfl) (by kernel_rfl) (fun _ _ _ h => h) (Or.inl ⟨by rfl, ?hy34⟩) (by assumption) ?rest34
  case hy34 => (intro w hSw; (try dsimp only at hSw); go_simp; first | done | with_reducible rfl)
  try simp only [Act.put, List.getElem_toArray, List.getElem_cons_succ, List.getElem_cons_zero, List.setIfInBounds_toArray, List.set_cons_zero, List.set_cons_succ]
  refine wpAnyH_take (i := 8) (v := ?vv35) rfl (by kernel_rfl) (by kernel_rfl) (by kernel_rfl) (fun _ _ _ h => h) (Or.inl ⟨by rfl, ?hy35⟩) (by assumption) ?rest35
  case hy35 => (intro w hSw; (try dsimp only at hSw); go_simp; first | done | with_reducible rfl)
  try simp only [Act.put, List.getElem_toArray, List.getElem_cons_succ, List.getElem_cons_zero, List.setIfInBounds_toArray, List.set_cons_zero, List.set_cons_succ]
  refine wpAnyH_take (i := 9) (v := ?vv36) rfl (by kernel_rfl) (by kernel_rfl) (by kernel_rfl) (fun _ _ _ h => h) (Or.inl ⟨by rfl, ?hy36⟩) (by assumption) ?rest36
  case hy36 => (intro w hSw; (try dsimp only at hSw); go_simp; first | done | with_reducible rfl)
  try simp only [Act.put, List.getElem_toArray, List.getElem_cons_succ, List.getElem_cons_zero, List.setIfInBounds_toArray, List.set_cons_zero, List.set_cons_succ]
  refine wpAnyH_take (i := 10) (v := ?vv37) rfl (by kernel_rfl) (by kernel_rfl) (by kernel_rfl) (fun _ _ _ h => h) (Or.inl ⟨by rfl, ?hy37⟩) (by assumption) ?rest37
  case hy37 => (intro w hSw; (try dsimp only at hSw); go_simp; first | done | with_reducible rfl)
  try simp only [Act.put, List.getElem_toArray, List.getElem_cons_succ, List.getElem_cons_zero, List.setIfInBounds_toArray, List.set_cons_zero, List.set_cons_succ]
  refine wpAnyH_take (i := 11) (v := ?vv38) rfl (by kernel_rfl) (by kernel_rfl) (by kernel_rfl) (fun _ _ _ h => h) (Or.inl ⟨by rfl, ?hy38⟩) (by assumption) ?rest38
  case hy38 => (intro w hSw; (try dsimp only at hSw); go_simp; first | done | with_reducible rfl)
  try simp only [Act.put, List.getElem_toArray, List.getElem_cons_succ, List.getElem_cons_zero, List.setIfInBounds_toArray, List.set_cons_zero, List.set_cons_succ]
  refine wpAnyH_take (i := 12) (v := ?vv39) rfl (by kernel_rfl) (by kernel_rfl) (by kernel_rfl) (fun _ _ _ h => h) (Or.inl ⟨by rfl, ?hy39⟩) (by assumption) ?rest39
  case hy39 => (intro w hSw; (try dsimp only at hSw); go_simp; first | done | with_reducible rfl)
  try simp only [Act.put, List.getElem_toArray, List.getElem_cons_succ, List.getElem_cons_zero, List.setIfInBounds_toArray, List.set_cons_zero, List.set_cons_succ]
  refine wpAnyH_take (i := 14) (v := ?vv40) rfl (by kernel_rfl) (by kernel_rfl) (by kernel_rfl) (fun _ _ _ h => h) (Or.inl ⟨by rfl, ?hy40⟩) (by assumption) ?rest40
  case hy40 => (intro w hSw; (try dsimp only at hSw); go_simp; first | done | with_reducible rfl)
  try simp only [Act.put, List.getElem_toArray, List.getElem_cons_succ, List.getElem_cons_zero, List.setIfInBounds_toArray, List.set_cons_zero, List.set_cons_succ]
  refine wpAnyH_ready (rs := [13]) (by kernel_rfl) (by simp) ?_
  refine AllReadyH.cons rfl (fun K hK => ?_) AllReadyH.nil
  go_simp
  refine (RFX.out _ BQ5.out).mono ?_
  rintro e wq6 ⟨rfl, bq⟩
  have BQ6 := hid (below_on BQ5.out bq)
  clear bq hHeld
  go_wp2_with fail
  refine hK.out _ _ (ZC.out _ BQ6.out) (fun hHeld => ?_)
  clear hK K
  try simp only [Act.put, List.getElem_toArray, List.getElem_cons_succ, List.getElem_cons_zero, List.setIfInBounds_toArray, List.set_cons_zero, List.set_cons_succ]
  refine wpAnyH_ready (rs := [15]) (by kernel_rfl) (by simp) ?_
  refine AllReadyH.cons rfl (fun K hK => ?_) AllReadyH.nil
  go_simp
  refine (SMX.out _ BQ6.out).mono ?_
  rintro e wq7 ⟨rfl, bq⟩
  have BQ7 := hid (below_on BQ6.out bq)
  clear bq hHeld
  go_wp2_with fail
  refine hK.out _ _ (ZC.out _ BQ7.out) (fun hHeld => ?_)
  clear hK K
  try simp only [Act.put, List.getElem_toArray, List.getElem_cons_succ, List.getElem_cons_zero, List.setIfInBounds_toArray, List.set_cons_zero, List.set_cons_succ]
  refine wpAnyH_take (i := 16) (v := ?vv41) rfl (by kernel_rfl) (by kernel_rfl) (by kernel_rfl) (fun _ _ _ h => h) (Or.inl ⟨by rfl, ?hy41⟩) (by assumption) ?rest41
  case hy41 => (intro w hSw; (try dsimp only at hSw); go_simp; first | done | with_reducible rfl)
  try simp only [Act.put, List.getElem_toArray, List.getElem_cons_succ, List.getElem_cons_zero, List.setIfInBounds_toArray, List.set_cons_zero, List.set_cons_succ]
  refine wpAnyH_take (i := 17) (v := ?vv42) rfl (by kernel_rfl) (by kernel_rfl) (by kernel_rfl) (fun _ _ _ h => h) (Or.inl ⟨by rfl, ?hy42⟩) (by assumption) ?rest42
  case hy42 => (intro w hSw; (try dsimp only at hSw); go_simp; first | done | with_reducible rfl)
  try simp only [Act.put, List.getElem_toArray, List.getElem_cons_succ, List.getElem_cons_zero, List.setIfInBounds_toArray, List.set_cons_zero, List.set_cons_succ]
  refine wpAnyH_take (i := 18) (v := ?vv43) rfl (by kernel_rfl) (by kernel_rfl) (by kernel_rfl) (fun _ _ _ h => h) (Or.inl ⟨by rfl, ?hy43⟩) (by assumption) ?rest43
  case hy43 => (intro w hSw; (try dsimp only at hSw); go_simp; first | done | with_reducible rfl)
  try simp only [Act.put, List.getElem_toArray, List.getElem_cons_succ, List.getElem_cons_zero, List.setIfInBounds_toArray, List.set_cons_zero, List.set_cons_succ]
  refine wpAnyH_take (i := 19) (v := ?vv44) rfl (by kernel_rfl) (by kernel_rfl) (by kernel_rfl) (fun _ _ _ h => h) (Or.inl ⟨by rfl, ?hy44⟩) (by assumption) ?rest44
  case hy44 => (intro w hSw; (try dsimp only at hSw); go_simp; first | done | with_reducible rfl)
  try simp only [Act.put, List.getElem_toArray, List.getElem_cons_succ, List.getElem_cons_zero, List.setIfInBounds_toArray, List.set_cons_zero, List.set_cons_succ]
  refine wpAnyH_take (i := 20) (v := ?vv45) rfl (by kernel_rfl) (by kernel_rfl) (by kernel_rfl) (fun _ _ _ h => h) (Or.inl ⟨by rfl, ?hy45⟩) (by assumption) ?rest45
  case hy45 => (intro w hSw; (try dsimp only at hSw); go_simp; first | done | with_reducible rfl)
  try simp only [Act.put, List.getElem_toArray, List.getElem_cons_succ, List.getElem_cons_zero, List.setIfInBounds_toArray, List.set_cons_zero, List.set_cons_succ]
  refine wpAnyH_take (i := 21) (v := ?vv46) rfl (by kernel_rfl) (by kernel_rfl) (by kernel_rfl) (fun _ _ _ h => h) (Or.inl ⟨by rfl, ?hy46⟩) (by assumption) ?rest46
  case hy46 => (intro w hSw; (try dsimp only at hSw); go_simp; first | done | with_reducible rfl)
  try simp only [Act.put, List.getElem_toArray, List.getElem_cons_succ, List.getElem_cons_zero, List.setIfInBounds_toArray, List.set_cons_zero, List.set_cons_succ]
  refine wpAnyH_take (i := 22) (v := ?vv47) rfl (by kernel_rfl) (by kernel_rfl) (by kernel_rfl) (fun _ _ _ h => h) (Or.inl ⟨by rfl, ?hy47⟩) (by assumption) ?rest47
  case hy47 => (intro w hSw; (try dsimp only at hSw); go_simp; first | done | with_reducible rfl)
  try simp only [Act.put, List.getElem_toArray, List.getElem_cons_succ, List.getElem_cons_zero, List.setIfInBounds_toArray, List.set_cons_zero, List.set_cons_succ]
  refine wpAnyH_take (i := 23) (v := ?vv48) rfl (by kernel_rfl) (by kernel_rfl) (by kernel_rfl) (fun _ _ _ h => h) (Or.inl ⟨by rfl, ?hy48⟩) (by assumption) ?rest48
  case hy48 => (intro w hSw; (try dsimp only at hSw); go_simp; first | done | with_reducible rfl)
  try simp only [Act.put, List.getElem_toArray, List.getElem_cons_succ, List.getElem_cons_zero, List.setIfInBounds_toArray, List.set_cons_zero, List.set_cons_succ]
  refine wpAnyH_take (i := 24) (v := ?vv49) rfl (by kernel_rfl) (by kernel_rfl) (by kernel_rfl) (fun _ _ _ h => h) (Or.inl ⟨by rfl, ?hy49⟩) (by assumption) ?rest49
  case hy49 => (intro w hSw; (try dsimp only at hSw); go_simp; first | done | with_reducible rfl)
  try simp only [Act.put, List.getElem_toArray, List.getElem_cons_succ, List.getElem_cons_zero, List.setIfInBounds_toArray, List.set_cons_zero, List.set_cons_succ]
  refine wpAnyH_take (i := 25) (v := ?vv50) rfl (by kernel_rfl) (by kernel_rfl) (by kernel_rfl) (fun _ _ _ h => h) (Or.inl ⟨by rfl, ?hy50⟩) (by assumption) ?rest50
  case hy50 => (intro w hSw; (try dsimp only at hSw); go_simp; first | done | with_reducible rfl)
  try simp only [Act.put, List.getElem_toArray, List.getElem_cons_succ, List.getElem_cons_zero, List.setIfInBounds_toArray, List.set_cons_zero, List.set_cons_succ]
  refine wpAnyH_take (i := 26) (v := ?vv51) rfl (by kernel_rfl) (by kernel_rfl) (by kernel_rfl) (fun _ _ _ h => h) (Or.inl ⟨by rfl, ?hy51⟩) (by assumption) ?rest51
  case hy51 => (intro w hSw; (try dsimp only at hSw); go_simp; first | done | with_reducible rfl)
  try simp only [Act.put, List.getElem_toArray, List.getElem_cons_succ, List.getElem_cons_zero, List.setIfInBounds_toArray, List.set_cons_zero, List.set_cons_succ]
  refine wpAnyH_ready (rs := [27]) (by kernel_rfl) (by simp) ?_
  refine AllReadyH.cons rfl (fun K hK => ?_) AllReadyH.nil
  go_simp
  refine (WTX.out _ BQ7.out).mono ?_
  rintro e wq8 ⟨rfl, bq⟩
  have BQ8 := hid (below_on BQ7.out bq)
  clear bq hHeld
  go_wp2_with fail
  refine hK.out _ _ (ZC.out _ BQ8.out) (fun hHeld => ?_)
  clear hK K
  try simp only [Act.put, List.getElem_toArray, List.getElem_cons_succ, List.getElem_cons_zero, List.setIfInBounds_toArray, List.set_cons_zero, List.set_cons_succ]
  refine wpAnyH_take (i := 28) (v := ?vv52) rfl (by kernel_rfl) (by kernel_rfl) (by kernel_rfl) (fun _ _ _ h => h) (Or.inl ⟨by rfl, ?hy52⟩) (by assumption) ?rest52
  case hy52 => (intro w hSw; (try dsimp only at hSw); go_simp; first | done | with_reducible rfl)
  try simp only [Act.put, List.getElem_toArray, List.getElem_cons_succ, List.getElem_cons_zero, List.setIfInBounds_toArray, List.set_cons_zero, List.set_cons_succ]
  refine wpAnyH_take (i := 29) (v := ?vv53) rfl (by kernel_rfl) (by kernel_rfl) (by kernel_rfl) (fun _ _ _ h => h) (Or.inl ⟨by rfl, ?hy53⟩) (by assumption) ?rest53
  case hy53 => (intro w hSw; (try dsimp only at hSw); go_simp; first | done | with_reducible rfl)
  try simp only [Act.put, List.getElem_toArray, List.getElem_cons_succ, List.getElem_cons_zero, List.setIfInBounds_toArray, List.set_cons_zero, List.set_cons_succ]
  refine wpAnyH_take (i := 30) (v := ?vv54) rfl (by kernel_rfl) (by kernel_rfl) (by kernel_rfl) (fun _ _ _ h => h) (Or.inl ⟨by rfl, ?hy54⟩) (by assumption) ?rest54
  case hy54 => (intro w hSw; (try dsimp only at hSw); go_simp; first | done | with_reducible rfl)
  try simp only [Act.put, List.getElem_toArray, List.getElem_cons_succ, List.getElem_cons_zero, List.setIfInBounds_toArray, List.set_cons_zero, List.set_cons_succ]
  refine wpAnyH_done (by kernel_rfl) ?_ _
  clear hHeld ZC
  go_wp2
  go_ret
  have k : Keep (fun k => c0 p k < 6) w _ := (HK.out.mono (fun _ _ h => h.elim)).trans (T9.out.keepR (BQ8.out.keep _)).2
  refine ⟨rfl, keep_below k (fun j hj h => ?_) (Nat.le_refl _)⟩
  have h' : (if j = p then 0 else 7) < 6 := h
  rw [if_neg (by have := HP.out; omega)] at h'
  omega
set_option maxRecDepth 100000 in
set_option maxHeartbeats 4000000 in
theorem loads_01 (F G : ByteArray) (x : Int) (w : World) (hF : F.size ≤ 1048576) (hG : G.size ≤ 1048576) (hx1 : (bits .and .i64 x 1 == 1) = false) (hx2 : (bits .and .i64 x 2 == 2) = true) : Calls Tryz.prog 3 #[.string F, .string G, .int .i64 x] w fun e w' => e = .returned (.bool true) ∧ Below w.heap.size w w' := by
  have NW := hid (new_any w)
  obtain ⟨p, hp⟩ : ∃ p, p = w.heap.size := ⟨_, rfl⟩
  have HP := hid hp
  rw [← hp] at NW
  have hF' : F.data.toList.length ≤ 1048576 := hF
  have hG' : G.data.toList.length ≤ 1048576 := hG
  have tF : tx F.data.toList = F := rfl
  have tG : tx G.data.toList = G := rfl
  have W1 : Hid (∀ W c, DiskIs W c p d0 → Calls Tryz.prog 5 #[.pointer (some ⟨p, 0, none⟩), .string ⟨#[115, 110, 97, 112, 46, 110, 101, 119]⟩, .string G] W fun e w' => e = .returned (.int .i64 0) ∧ Left W c p ⟨[], [⟨1, snw, [], G.data.toList, 0⟩], 1, [], false, 0, false⟩ w') := fun W c D => by
    have := write_any p c _ snw G.data.toList W D (by simp [d0, Ds.wt, tot, snw] <;> omega) (by simp [d0])
    rw [ls_w1] at this
    exact this
  have SY : Hid (∀ W c, DiskIs W c p ⟨[], [⟨1, snw, [], G.data.toList, 0⟩], 1, [], false, 0, false⟩ → Calls Tryz.prog 6 #[.pointer (some ⟨p, 0, none⟩)] W fun e w' => e = .returned (.int .i64 0) ∧ Left W c p (lsD false true [] G.data.toList) w') := fun W c D => by
    have := sync_all p c _ W D (by simp [d0, Ds.wt, tot] <;> omega)
    rw [ls_s01] at this
    exact this
  have FL : Hid (∀ W c, DiskIs W c p (lsD false true [] G.data.toList) → Calls Tryz.prog 8 #[.pointer (some ⟨p, 0, none⟩)] W fun e w' => ∃ v, e = .returned v ∧ w'.ownsRow W.heap.size 63 2 v (lsF false true [] G.data.toList).length (fC (lsF false true [] G.data.toList)) ∧ Keep (fun _ => False) W w') := fun W c D => files_any p c _ W D rfl (by rw [ls_now]; have := ls_len false true [] G.data.toList; omega) (ls_nm _ _ _ _) (ls_srt _ _ _ _)
  have RL : Hid (∀ v W, FileRow W 0 v (lsF false true [] G.data.toList) → Calls Tryz.prog 7 #[v] W fun e w' => ∃ ad cap, e = .returned (.tuple #[shV (.slice ad (lsQ false []).s.ms.length cap) (lsQ false []).s, .bool (lsQ false []).b, .int .i64 (lsQ false []).e]) ∧ OwnI w' W.heap.size (.slice ad (lsQ false []).s.ms.length cap) (lsQ false []).s.ms ∧ Below W.heap.size W w') := fun v W h => by
    have := rload_any _ v W h (ls_srt _ _ _ _) (by have := ls_len false true [] G.data.toList; omega) (fun y hy => by simp [lsF] at hy; subst hy; simp only; omega)
    rw [ls_rl] at this
    exact this
  have LD : Hid (∀ W c, DiskIs W c p (lsD false true [] G.data.toList) → Calls Tryz.prog 9 #[.pointer (some ⟨p, 0, none⟩)] W fun e w' => ∃ ad cap, e = .returned (.tuple #[shV (.slice ad (lsQ false []).s.ms.length cap) (lsQ false []).s, .bool (lsQ false []).b, .int .i64 (lsQ false []).e]) ∧ IntsI w' (.slice ad (lsQ false []).s.ms.length cap) (lsQ false []).s.ms ∧ Left W c p (lsE false true []) w') := fun W c D => by
    have hGe : true = false → G.data.toList = ([] : Bs) := by intro h; cases h
    have hq := ls_spd false true [] G.data.toList hGe
    have := load_any p c _ W D (ls_ok _ _ _ _ hGe (by simp <;> omega) (by simp <;> omega)) (by rw [hq]; simp only; rw [ls_rd]; simp <;> omega)
    rw [ls_ld _ _ _ _ hGe, hq] at this
    exact this
  have RD : Hid (∀ W c, DiskIs W c p (lsE false true []) → Calls Tryz.prog 10 #[.pointer (some ⟨p, 0, none⟩), .string ⟨#[115, 110, 97, 112, 46, 110, 101, 119]⟩] W fun e w' => e = .returned (.tuple #[.string ⟨#[]⟩, .int .i64 4]) ∧ Keep (fun _ => False) W w') := fun W c D => by
    have := read_any p c _ snw W D
    rw [ls_rdn] at this
    exact this
  have LN : Hid (∀ W, Calls Tryz.prog 9 #[.pointer none] W fun e w' => e = .returned (.tuple #[.agg #[.int .i64 0, .int .i64 0, .slice none 0 0, .string ⟨#[]⟩], .bool false, .int .i64 1]) ∧ Below W.heap.size W w') := fun W => load_nil W
  have WT : Hid (∀ W c, DiskIs W c p (lsE false true []) → Calls Tryz.prog 14 #[.pointer (some ⟨p, 0, none⟩)] W fun e w' => e = .returned (.int .i64 0) ∧ Below W.heap.size W w') := fun W c D => (waits_any p c _ W D).mono fun e w' ⟨he, hw⟩ => ⟨he, by subst hw; exact Below.refl _ _⟩
  have AW := hid (fun W => awake7 W)
  have HMQ : (lsQ false []).s.ms.length ≤ 9223372036854775807 := ls_ms _ _
  generalize lsQ false [] = Q at *
  have HML0 : Q.s.ms.length ≤ 9223372036854775807 := HMQ
  obtain ⟨S, qb, qe⟩ := Q
  simp only at RL LD HML0
  unfold shV at RL LD
  have hms : Hid (∀ (u z : Value) W, IntsI W u S.ms → IntsI W z S.ms → S.ms.length ≤ 9223372036854775807 → Calls Tryz.prog 12 #[.agg #[.int .i64 S.ix, .int .i64 S.tm, u, .string S.da], .agg #[.int .i64 S.ix, .int .i64 S.tm, z, .string S.da]] W fun e w' => e = .returned (.bool true) ∧ Below W.heap.size W w') := fun u z W hu hz hl => by
    have := rsame_any u z S S W hu hz hl
    rw [show smS S S = true from by simp [smS]] at this
    exact this
  obtain ⟨ix, tm, ms, da⟩ := S
  simp only at *
  have HML := hid HML0
  clear HMQ HML0
  generalize lsF false true [] G.data.toList = A0 at *
  generalize lsD false true [] G.data.toList = D1 at *
  generalize lsE false true [] = D2 at *
  generalize (⟨[], [⟨1, snw, [], G.data.toList, 0⟩], 1, [], false, 0, false⟩ : Ds) = Db at *
  clear hF hG hF' hG' tF tG hp
  go_enter Tryz.func3, Tryz.ntmps3
  go_wp2_with fail
  refine NW.out.mono ?_
  rintro e w1 ⟨rfl, hD, hk⟩
  have H0 := hid (left_same hD (Keep.refl _ w1))
  have HK := hid hk
  clear hD hk NW
  go_wp2_with fail
  refine (stepL H0.out W1.out).mono ?_
  rintro e wq1 ⟨rfl, hL⟩
  have H1 := hid hL
  clear hL H0 W1
  go_wp2_with fail
  refine (stepL H1.out SY.out).mono ?_
  rintro e wq2 ⟨rfl, hL⟩
  have H2 := hid hL
  clear hL H1 SY
  obtain ⟨⟨ci, DI, hci⟩, KI⟩ := H2.out
  have DIh := hid DI
  have HLs := hid (H2.out)
  clear DI hci KI H2
  go_wp2_with fail
  refine (FL.out _ _ DIh.out).mono ?_
  rintro e w3 ⟨v, rfl, ho, hk⟩
  have HV : Hid (FileRow w3 0 v A0) := ownsRow_base ho (Nat.zero_le _)
  have K3 := hid hk
  clear ho hk FL DIh
  go_wp2_with fail
  refine (RL.out _ _ HV.out).mono ?_
  rintro e w4 ⟨a1, c1, rfl, ho, hb⟩
  have O4 : Hid (OwnI w4 wq2.heap.size (.slice a1 ms.length c1) ms) := ownsRow_base ho K3.out.size
  have K4 : Hid (Keep (fun _ => False) wq2 (w4.alloc (.cells #[.int .i64 ix, .int .i64 tm, .slice a1 ms.length c1, .string da] 29))) := (K3.out.trans (hb.keep _)).trans (keep_alloc _ _ _)
  have HS4 : Hid (wq2.heap.size ≤ w4.heap.size) := Nat.le_trans K3.out.size hb.size
  have R4 : Hid (RowIs (w4.alloc (.cells #[.int .i64 ix, .int .i64 tm, .slice a1 ms.length c1, .string da] 29)) w4.heap.size [.int .i64 ix, .int .i64 tm, .slice a1 ms.length c1, .string da] 29) := srow w4 _ _
  have O5 := hid (own_new O4.out (.cells #[.int .i64 ix, .int .i64 tm, .slice a1 ms.length c1, .string da] 29))
  obtain ⟨c2, hL2, h7, htr⟩ := left_fresh HLs.out K4.out
  have L5 := hid hL2
  have H7 := hid h7
  have TR := hid htr
  clear hL2 h7 htr ho hb K3 O4 RL HV HLs
  go_wp2_with fail
  obtain ⟨⟨ci, DI, hci⟩, KI⟩ := L5.out
  have hLT : ∀ W, Left _ ci p D2 W → Left _ c2 p D2 W := fun W h => Left.trans hci KI h
  have HLT := hid hLT
  clear hLT
  refine (LD.out _ _ DI).mono ?_
  rintro e w6 ⟨a2, c3, rfl, hI, hL⟩
  have L6 := hid (HLT.out _ hL)
  clear HLT DI hci KI LD hL
  have I6 := hid hI
  clear hI
  have O6 : Hid (OwnI w6 wq2.heap.size (.slice a1 ms.length c1) ms) := fresh_row O5.out H7.out L6.out
  have R6 : Hid (RowIs w6 w4.heap.size [.int .i64 ix, .int .i64 tm, .slice a1 ms.length c1, .string da] 29) := R4.out.keep L6.out.2 (fun e => by have h8 := H7.out w4.heap.size HS4.out; have e' : c2 w4.heap.size < 6 := e; omega)
  have T6 := hid (TR.out _ _ L6.out)
  clear O5 R4 L5 L6 TR H7 K4
  have HS6 : Hid (w4.heap.size < w6.heap.size) := R6.out.lt
  have R7 : Hid (RowIs (w6.alloc (.cells #[.int .i64 ix, .int .i64 tm, .slice a2 ms.length c3, .string da] 34)) w6.heap.size [.int .i64 ix, .int .i64 tm, .slice a2 ms.length c3, .string da] 34) := srow w6 _ _
  have AL := hid (below_al (Below.refl w6.heap.size w6) (.cells #[.int .i64 ix, .int .i64 tm, .slice a2 ms.length c3, .string da] 34))
  have T7 := hid (T6.out.keepR (AL.out.keep _))
  clear T6
  go_wp2_with fail
  obtain ⟨⟨ci, DI, hci⟩, KI⟩ := T7.out
  refine (RD.out _ _ DI).mono ?_
  rintro e w8 ⟨rfl, hk⟩
  have B8 : Hid (Below (w6.alloc (.cells #[.int .i64 ix, .int .i64 tm, .slice a2 ms.length c3, .string da] 34)).heap.size (w6.alloc (.cells #[.int .i64 ix, .int .i64 tm, .slice a2 ms.length c3, .string da] 34)) w8) := keep_below hk (fun _ _ h => h.elim) (Nat.le_refl _)
  clear DI hci KI hk RD
  go_wp2_with fail
  refine (LN.out _).mono ?_
  rintro e w9 ⟨rfl, hb⟩
  have B9 := hid (below_al (below_on B8.out hb) (.cells #[.int .i64 0, .int .i64 0, .slice none 0 0, .string ⟨#[]⟩] 34))
  clear hb B8 LN
  have T9 := hid (T7.out.keepR (B9.out.keep _))
  have R9 := hid (R7.out.keep (B9.out.keep (fun _ => False)) (fun h => h))
  have I9 := hid ((I6.out.next AL.out).next B9.out)
  have O9 := hid ((O6.out.next AL.out).next B9.out)
  have V9 := hid ((R6.out.keep (AL.out.keep (fun _ => False)) (fun h => h)).keep (B9.out.keep (fun _ => False)) (fun h => h))
  have hml : Hid (ms.length ≤ 9223372036854775807) := HML
  clear T7 R7 I6 O6 R6 AL B9
  go_upto_region 8 with fail
  generalize w9.alloc (.cells #[.int .i64 0, .int .i64 0, .slice none 0 0, .string ⟨#[]⟩] 34) = X at *
  generalize w6.heap.size = q at *
  generalize w4.heap.size = q2 at *
  have ZC : Hid (∀ W, Below X.heap.size X W → (fun w' => w'.cell? ⟨q, 0, none⟩ = some (.int .i64 ix) ∧ w'.cell? ⟨q, 1, none⟩ = some (.int .i64 tm) ∧ w'.cell? ⟨q, 2, none⟩ = some (.slice a2 ms.length c3) ∧ w'.cell? ⟨q, 3, none⟩ = some (.string da) ∧ w'.cell? ⟨q2, 0, none⟩ = some (.int .i64 ix) ∧ w'.cell? ⟨q2, 1, none⟩ = some (.int .i64 tm) ∧ w'.cell? ⟨q2, 2, none⟩ = some (.slice a1 ms.length c1) ∧ w'.cell? ⟨q2, 3, none⟩ = some (.string da)) W) := fun W hW => by
    have m1 := R9.out.keep (hW.keep (fun _ => False)) (fun h => h)
    have m2 := V9.out.keep (hW.keep (fun _ => False)) (fun h => h)
    exact ⟨m1.cellAt rfl, m1.cellAt rfl, m1.cellAt rfl, m1.cellAt rfl, m2.cellAt rfl, m2.cellAt rfl, m2.cellAt rfl, m2.cellAt rfl⟩
  have AWX : Hid (∀ W, Below X.heap.size X W → Calls Tryz.prog 11 #[] W fun e w' => e = .returned (.bool true) ∧ Below W.heap.size W w') := fun W _ => AW.out W
  have RFX : Hid (∀ W, Below X.heap.size X W → Calls Tryz.prog 13 #[.agg #[.int .i64 ix, .int .i64 tm, .slice a2 ms.length c3, .string da]] W fun e w' => e = .returned (.agg #[.int .i64 ix, .int .i64 tm, .slice a2 ms.length c3, .string da]) ∧ Below W.heap.size W w') := fun W _ => refOf_any a2 ms.length c3 ⟨ix, tm, [], da⟩ W
  have SMX : Hid (∀ W, Below X.heap.size X W → Calls Tryz.prog 12 #[.agg #[.int .i64 ix, .int .i64 tm, .slice a2 ms.length c3, .string da], .agg #[.int .i64 ix, .int .i64 tm, .slice a1 ms.length c1, .string da]] W fun e w' => e = .returned (.bool true) ∧ Below W.heap.size W w') := fun W hW => hms.out _ _ W (I9.out.next hW) ((O9.out.next hW).ints) hml.out
  have WTX : Hid (∀ W, Below X.heap.size X W → Calls Tryz.prog 14 #[.pointer (some ⟨p, 0, none⟩)] W fun e w' => e = .returned (.int .i64 0) ∧ Below W.heap.size W w') := fun W hW => by
    obtain ⟨⟨ci, DI, hci⟩, KI⟩ := T9.out.keepR (hW.keep _)
    exact WT.out W ci DI
  have D0 := hid (Below.refl X.heap.size X).drew
  clear AW hms I9 O9 R9 V9 WT hml
  refine wp_region_held_drew (S := (fun w' => w'.cell? ⟨q, 0, none⟩ = some (.int .i64 ix) ∧ w'.cell? ⟨q, 1, none⟩ = some (.int .i64 tm) ∧ w'.cell? ⟨q, 2, none⟩ = some (.slice a2 ms.length c3) ∧ w'.cell? ⟨q, 3, none⟩ = some (.string da) ∧ w'.cell? ⟨q2, 0, none⟩ = some (.int .i64 ix) ∧ w'.cell? ⟨q2, 1, none⟩ = some (.int .i64 tm) ∧ w'.cell? ⟨q2, 2, none⟩ = some (.slice a1 ms.length c1) ∧ w'.cell? ⟨q2, 3, none⟩ = some (.string da))) (by kernel_rfl) (ZC.out _ D0.out) (fun hHeld => ?_)
  refine wpAnyH_ready (rs := [0]) (by kernel_rfl) (by simp) ?_
  refine AllReadyH.cons rfl (fun K hK => ?_) AllReadyH.nil
  go_simp
  refine (AWX.out _ D0.out).mono ?_
  rintro e wq9 ⟨rfl, bq⟩
  have BQ9 := hid (below_on D0.out bq)
  clear bq hHeld
  go_wp2_with fail
  refine hK.out _ _ (ZC.out _ BQ9.out) (fun hHeld => ?_)
  clear hK K
  try simp only [Act.put, List.getElem_toArray, List.getElem_cons_succ, List.getElem_cons_zero, List.setIfInBounds_toArray, List.set_cons_zero, List.set_cons_succ]
  refine wpAnyH_take (i := 1) (v := ?vv55) rfl (by kernel_rfl) (by kernel_rfl) (by kernel_rfl) (fun _ _ _ h => h) (Or.inl ⟨by rfl, ?hy55⟩) (by assumption) ?rest55
  case hy55 => (intro w hSw; (try dsimp only at hSw); go_simp; first | done | with_reducible rfl)
  try simp only [Act.put, List.getElem_toArray, List.getElem_cons_succ, List.getElem_cons_zero, List.setIfInBounds_toArray, List.set_cons_zero, List.set_cons_succ]
  refine wpAnyH_take (i := 2) (v := ?vv56) rfl (by kernel_rfl) (by kernel_rfl) (by kernel_rfl) (fun _ _ _ h => h) (Or.inl ⟨by rfl, ?hy56⟩) (by assumption) ?rest56
  case hy56 => (intro w hSw; (try dsimp only at hSw); go_simp; first | done | with_reducible rfl)
  try simp only [Act.put, List.getElem_toArray, List.getElem_cons_succ, List.getElem_cons_zero, List.setIfInBounds_toArray, List.set_cons_zero, List.set_cons_succ]
  refine wpAnyH_take (i := 3) (v := ?vv57) rfl (by kernel_rfl) (by kernel_rfl) (by kernel_rfl) (fun _ _ _ h => h) (Or.inl ⟨by rfl, ?hy57⟩) (by assumption) ?rest57
  case hy57 => (intro w hSw; (try dsimp only at hSw); go_simp; first | done | with_reducible rfl)
  try simp only [Act.put, List.getElem_toArray, List.getElem_cons_succ, List.getElem_cons_zero, List.setIfInBounds_toArray, List.set_cons_zero, List.set_cons_succ]
  refine wpAnyH_take (i := 4) (v := ?vv58) rfl (by kernel_rfl) (by kernel_rfl) (by kernel_rfl) (fun _ _ _ h => h) (Or.inl ⟨by rfl, ?hy58⟩) (by assumption) ?rest58
  case hy58 => (intro w hSw; (try dsimp only at hSw); go_simp; first | done | with_reducible rfl)
  try simp only [Act.put, List.getElem_toArray, List.getElem_cons_succ, List.getElem_cons_zero, List.setIfInBounds_toArray, List.set_cons_zero, List.set_cons_succ]
  refine wpAnyH_take (i := 5) (v := ?vv59) rfl (by kernel_rfl) (by kernel_rfl) (by kernel_rfl) (fun _ _ _ h => h) (Or.inl ⟨by rfl, ?hy59⟩) (by assumption) ?rest59
  case hy59 => (intro w hSw; (try dsimp only at hSw); go_simp; first | done | with_reducible rfl)
  try simp only [Act.put, List.getElem_toArray, List.getElem_cons_succ, List.getElem_cons_zero, List.setIfInBounds_toArray, List.set_cons_zero, List.set_cons_succ]
  refine wpAnyH_take (i := 6) (v := ?vv60) rfl (by kernel_rfl) (by kernel_rfl) (by kernel_rfl) (fun _ _ _ h => h) (Or.inl ⟨by rfl, ?hy60⟩) (by assumption) ?rest60
  case hy60 => (intro w hSw; (try dsimp only at hSw); go_simp; first | done | with_reducible rfl)
  try simp only [Act.put, List.getElem_toArray, List.getElem_cons_succ, List.getElem_cons_zero, List.setIfInBounds_toArray, List.set_cons_zero, List.set_cons_succ]
  refine wpAnyH_take (i := 7) (v := ?vv61) rfl (by kernel_rfl) (by kernel_rfl) (by kernel_rfl) (fun _ _ _ h => h) (Or.inl ⟨by rfl, ?hy61⟩) (by assumption) ?rest61
  case hy61 => (intro w hSw; (try dsimp only at hSw); go_simp; first | done | with_reducible rfl)
  try simp only [Act.put, List.getElem_toArray, List.getElem_cons_succ, List.getElem_cons_zero, List.setIfInBounds_toArray, List.set_cons_zero, List.set_cons_succ]
  refine wpAnyH_take (i := 8) (v := ?vv62) rfl (by kernel_rfl) (by kernel_rfl) (by kernel_rfl) (fun _ _ _ h => h) (Or.inl ⟨by rfl, ?hy62⟩) (by assumption) ?rest62
  case hy62 => (intro w hSw; (try dsimp only at hSw); go_simp; first | done | with_reducible rfl)
  try simp only [Act.put, List.getElem_toArray, List.getElem_cons_succ, List.getElem_cons_zero, List.setIfInBounds_toArray, List.set_cons_zero, List.set_cons_succ]
  refine wpAnyH_take (i := 9) (v := ?vv63) rfl (by kernel_rfl) (by kernel_rfl) (by kernel_rfl) (fun _ _ _ h => h) (Or.inl ⟨by rfl, ?hy63⟩) (by assumption) ?rest63
  case hy63 => (intro w hSw; (try dsimp only at hSw); go_simp; first | done | with_reducible rfl)
  try simp only [Act.put, List.getElem_toArray, List.getElem_cons_succ, List.getElem_cons_zero, List.setIfInBounds_toArray, List.set_cons_zero, List.set_cons_succ]
  refine wpAnyH_take (i := 10) (v := ?vv64) rfl (by kernel_rfl) (by kernel_rfl) (by kernel_rfl) (fun _ _ _ h => h) (Or.inl ⟨by rfl, ?hy64⟩) (by assumption) ?rest64
  case hy64 => (intro w hSw; (try dsimp only at hSw); go_simp; first | done | with_reducible rfl)
  try simp only [Act.put, List.getElem_toArray, List.getElem_cons_succ, List.getElem_cons_zero, List.setIfInBounds_toArray, List.set_cons_zero, List.set_cons_succ]
  refine wpAnyH_take (i := 11) (v := ?vv65) rfl (by kernel_rfl) (by kernel_rfl) (by kernel_rfl) (fun _ _ _ h => h) (Or.inl ⟨by rfl, ?hy65⟩) (by assumption) ?rest65
  case hy65 => (intro w hSw; (try dsimp only at hSw); go_simp; first | done | with_reducible rfl)
  try simp only [Act.put, List.getElem_toArray, List.getElem_cons_succ, List.getElem_cons_zero, List.setIfInBounds_toArray, List.set_cons_zero, List.set_cons_succ]
  refine wpAnyH_take (i := 12) (v := ?vv66) rfl (by kernel_rfl) (by kernel_rfl) (by kernel_rfl) (fun _ _ _ h => h) (Or.inl ⟨by rfl, ?hy66⟩) (by assumption) ?rest66
  case hy66 => (intro w hSw; (try dsimp only at hSw); go_simp; first | done | with_reducible rfl)
  try simp only [Act.put, List.getElem_toArray, List.getElem_cons_succ, List.getElem_cons_zero, List.setIfInBounds_toArray, List.set_cons_zero, List.set_cons_succ]
  refine wpAnyH_take (i := 14) (v := ?vv67) rfl (by kernel_rfl) (by kernel_rfl) (by kernel_rfl) (fun _ _ _ h => h) (Or.inl ⟨by rfl, ?hy67⟩) (by assumption) ?rest67
  case hy67 => (intro w hSw; (try dsimp only at hSw); go_simp; first | done | with_reducible rfl)
  try simp only [Act.put, List.getElem_toArray, List.getElem_cons_succ, List.getElem_cons_zero, List.setIfInBounds_toArray, List.set_cons_zero, List.set_cons_succ]
  refine wpAnyH_ready (rs := [13]) (by kernel_rfl) (by simp) ?_
  refine AllReadyH.cons rfl (fun K hK => ?_) AllReadyH.nil
  go_simp
  refine (RFX.out _ BQ9.out).mono ?_
  rintro e wq10 ⟨rfl, bq⟩
  have BQ10 := hid (below_on BQ9.out bq)
  clear bq hHeld
  go_wp2_with fail
  refine hK.out _ _ (ZC.out _ BQ10.out) (fun hHeld => ?_)
  clear hK K
  try simp only [Act.put, List.getElem_toArray, List.getElem_cons_succ, List.getElem_cons_zero, List.setIfInBounds_toArray, List.set_cons_zero, List.set_cons_succ]
  refine wpAnyH_ready (rs := [15]) (by kernel_rfl) (by simp) ?_
  refine AllReadyH.cons rfl (fun K hK => ?_) AllReadyH.nil
  go_simp
  refine (SMX.out _ BQ10.out).mono ?_
  rintro e wq11 ⟨rfl, bq⟩
  have BQ11 := hid (below_on BQ10.out bq)
  clear bq hHeld
  go_wp2_with fail
  refine hK.out _ _ (ZC.out _ BQ11.out) (fun hHeld => ?_)
  clear hK K
  try simp only [Act.put, List.getElem_toArray, List.getElem_cons_succ, List.getElem_cons_zero, List.setIfInBounds_toArray, List.set_cons_zero, List.set_cons_succ]
  refine wpAnyH_take (i := 16) (v := ?vv68) rfl (by kernel_rfl) (by kernel_rfl) (by kernel_rfl) (fun _ _ _ h => h) (Or.inl ⟨by rfl, ?hy68⟩) (by assumption) ?rest68
  case hy68 => (intro w hSw; (try dsimp only at hSw); go_simp; first | done | with_reducible rfl)
  try simp only [Act.put, List.getElem_toArray, List.getElem_cons_succ, List.getElem_cons_zero, List.setIfInBounds_toArray, List.set_cons_zero, List.set_cons_succ]
  refine wpAnyH_take (i := 17) (v := ?vv69) rfl (by kernel_rfl) (by kernel_rfl) (by kernel_rfl) (fun _ _ _ h => h) (Or.inl ⟨by rfl, ?hy69⟩) (by assumption) ?rest69
  case hy69 => (intro w hSw; (try dsimp only at hSw); go_simp; first | done | with_reducible rfl)
  try simp only [Act.put, List.getElem_toArray, List.getElem_cons_succ, List.getElem_cons_zero, List.setIfInBounds_toArray, List.set_cons_zero, List.set_cons_succ]
  refine wpAnyH_take (i := 18) (v := ?vv70) rfl (by kernel_rfl) (by kernel_rfl) (by kernel_rfl) (fun _ _ _ h => h) (Or.inl ⟨by rfl, ?hy70⟩) (by assumption) ?rest70
  case hy70 => (intro w hSw; (try dsimp only at hSw); go_simp; first | done | with_reducible rfl)
  try simp only [Act.put, List.getElem_toArray, List.getElem_cons_succ, List.getElem_cons_zero, List.setIfInBounds_toArray, List.set_cons_zero, List.set_cons_succ]
  refine wpAnyH_take (i := 19) (v := ?vv71) rfl (by kernel_rfl) (by kernel_rfl) (by kernel_rfl) (fun _ _ _ h => h) (Or.inl ⟨by rfl, ?hy71⟩) (by assumption) ?rest71
  case hy71 => (intro w hSw; (try dsimp only at hSw); go_simp; first | done | with_reducible rfl)
  try simp only [Act.put, List.getElem_toArray, List.getElem_cons_succ, List.getElem_cons_zero, List.setIfInBounds_toArray, List.set_cons_zero, List.set_cons_succ]
  refine wpAnyH_take (i := 20) (v := ?vv72) rfl (by kernel_rfl) (by kernel_rfl) (by kernel_rfl) (fun _ _ _ h => h) (Or.inl ⟨by rfl, ?hy72⟩) (by assumption) ?rest72
  case hy72 => (intro w hSw; (try dsimp only at hSw); go_simp; first | done | with_reducible rfl)
  try simp only [Act.put, List.getElem_toArray, List.getElem_cons_succ, List.getElem_cons_zero, List.setIfInBounds_toArray, List.set_cons_zero, List.set_cons_succ]
  refine wpAnyH_take (i := 21) (v := ?vv73) rfl (by kernel_rfl) (by kernel_rfl) (by kernel_rfl) (fun _ _ _ h => h) (Or.inl ⟨by rfl, ?hy73⟩) (by assumption) ?rest73
  case hy73 => (intro w hSw; (try dsimp only at hSw); go_simp; first | done | with_reducible rfl)
  try simp only [Act.put, List.getElem_toArray, List.getElem_cons_succ, List.getElem_cons_zero, List.setIfInBounds_toArray, List.set_cons_zero, List.set_cons_succ]
  refine wpAnyH_take (i := 22) (v := ?vv74) rfl (by kernel_rfl) (by kernel_rfl) (by kernel_rfl) (fun _ _ _ h => h) (Or.inl ⟨by rfl, ?hy74⟩) (by assumption) ?rest74
  case hy74 => (intro w hSw; (try dsimp only at hSw); go_simp; first | done | with_reducible rfl)
  try simp only [Act.put, List.getElem_toArray, List.getElem_cons_succ, List.getElem_cons_zero, List.setIfInBounds_toArray, List.set_cons_zero, List.set_cons_succ]
  refine wpAnyH_take (i := 23) (v := ?vv75) rfl (by kernel_rfl) (by kernel_rfl) (by kernel_rfl) (fun _ _ _ h => h) (Or.inl ⟨by rfl, ?hy75⟩) (by assumption) ?rest75
  case hy75 => (intro w hSw; (try dsimp only at hSw); go_simp; first | done | with_reducible rfl)
  try simp only [Act.put, List.getElem_toArray, List.getElem_cons_succ, List.getElem_cons_zero, List.setIfInBounds_toArray, List.set_cons_zero, List.set_cons_succ]
  refine wpAnyH_take (i := 24) (v := ?vv76) rfl (by kernel_rfl) (by kernel_rfl) (by kernel_rfl) (fun _ _ _ h => h) (Or.inl ⟨by rfl, ?hy76⟩) (by assumption) ?rest76
  case hy76 => (intro w hSw; (try dsimp only at hSw); go_simp; first | done | with_reducible rfl)
  try simp only [Act.put, List.getElem_toArray, List.getElem_cons_succ, List.getElem_cons_zero, List.setIfInBounds_toArray, List.set_cons_zero, List.set_cons_succ]
  refine wpAnyH_take (i := 25) (v := ?vv77) rfl (by kernel_rfl) (by kernel_rfl) (by kernel_rfl) (fun _ _ _ h => h) (Or.inl ⟨by rfl, ?hy77⟩) (by assumption) ?rest77
  case hy77 => (intro w hSw; (try dsimp only at hSw); go_simp; first | done | with_reducible rfl)
  try simp only [Act.put, List.getElem_toArray, List.getElem_cons_succ, List.getElem_cons_zero, List.setIfInBounds_toArray, List.set_cons_zero, List.set_cons_succ]
  refine wpAnyH_take (i := 26) (v := ?vv78) rfl (by kernel_rfl) (by kernel_rfl) (by kernel_rfl) (fun _ _ _ h => h) (Or.inl ⟨by rfl, ?hy78⟩) (by assumption) ?rest78
  case hy78 => (intro w hSw; (try dsimp only at hSw); go_simp; first | done | with_reducible rfl)
  try simp only [Act.put, List.getElem_toArray, List.getElem_cons_succ, List.getElem_cons_zero, List.setIfInBounds_toArray, List.set_cons_zero, List.set_cons_succ]
  refine wpAnyH_ready (rs := [27]) (by kernel_rfl) (by simp) ?_
  refine AllReadyH.cons rfl (fun K hK => ?_) AllReadyH.nil
  go_simp
  refine (WTX.out _ BQ11.out).mono ?_
  rintro e wq12 ⟨rfl, bq⟩
  have BQ12 := hid (below_on BQ11.out bq)
  clear bq hHeld
  go_wp2_with fail
  refine hK.out _ _ (ZC.out _ BQ12.out) (fun hHeld => ?_)
  clear hK K
  try simp only [Act.put, List.getElem_toArray, List.getElem_cons_succ, List.getElem_cons_zero, List.setIfInBounds_toArray, List.set_cons_zero, List.set_cons_succ]
  refine wpAnyH_take (i := 28) (v := ?vv79) rfl (by kernel_rfl) (by kernel_rfl) (by kernel_rfl) (fun _ _ _ h => h) (Or.inl ⟨by rfl, ?hy79⟩) (by assumption) ?rest79
  case hy79 => (intro w hSw; (try dsimp only at hSw); go_simp; first | done | with_reducible rfl)
  try simp only [Act.put, List.getElem_toArray, List.getElem_cons_succ, List.getElem_cons_zero, List.setIfInBounds_toArray, List.set_cons_zero, List.set_cons_succ]
  refine wpAnyH_take (i := 29) (v := ?vv80) rfl (by kernel_rfl) (by kernel_rfl) (by kernel_rfl) (fun _ _ _ h => h) (Or.inl ⟨by rfl, ?hy80⟩) (by assumption) ?rest80
  case hy80 => (intro w hSw; (try dsimp only at hSw); go_simp; first | done | with_reducible rfl)
  try simp only [Act.put, List.getElem_toArray, List.getElem_cons_succ, List.getElem_cons_zero, List.setIfInBounds_toArray, List.set_cons_zero, List.set_cons_succ]
  refine wpAnyH_take (i := 30) (v := ?vv81) rfl (by kernel_rfl) (by kernel_rfl) (by kernel_rfl) (fun _ _ _ h => h) (Or.inl ⟨by rfl, ?hy81⟩) (by assumption) ?rest81
  case hy81 => (intro w hSw; (try dsimp only at hSw); go_simp; first | done | with_reducible rfl)
  try simp only [Act.put, List.getElem_toArray, List.getElem_cons_succ, List.getElem_cons_zero, List.setIfInBounds_toArray, List.set_cons_zero, List.set_cons_succ]
  refine wpAnyH_done (by kernel_rfl) ?_ _
  clear hHeld ZC
  go_wp2
  go_ret
  have k : Keep (fun k => c0 p k < 6) w _ := (HK.out.mono (fun _ _ h => h.elim)).trans (T9.out.keepR (BQ12.out.keep _)).2
  refine ⟨rfl, keep_below k (fun j hj h => ?_) (Nat.le_refl _)⟩
  have h' : (if j = p then 0 else 7) < 6 := h
  rw [if_neg (by have := HP.out; omega)] at h'
  omega
set_option maxRecDepth 100000 in
set_option maxHeartbeats 4000000 in
theorem loads_11 (F G : ByteArray) (x : Int) (w : World) (hF : F.size ≤ 1048576) (hG : G.size ≤ 1048576) (hx1 : (bits .and .i64 x 1 == 1) = true) (hx2 : (bits .and .i64 x 2 == 2) = true) : Calls Tryz.prog 3 #[.string F, .string G, .int .i64 x] w fun e w' => e = .returned (.bool true) ∧ Below w.heap.size w w' := by
  have NW := hid (new_any w)
  obtain ⟨p, hp⟩ : ∃ p, p = w.heap.size := ⟨_, rfl⟩
  have HP := hid hp
  rw [← hp] at NW
  have hF' : F.data.toList.length ≤ 1048576 := hF
  have hG' : G.data.toList.length ≤ 1048576 := hG
  have tF : tx F.data.toList = F := rfl
  have tG : tx G.data.toList = G := rfl
  have W0 : Hid (∀ W c, DiskIs W c p d0 → Calls Tryz.prog 5 #[.pointer (some ⟨p, 0, none⟩), .string ⟨#[115, 110, 97, 112]⟩, .string F] W fun e w' => e = .returned (.int .i64 0) ∧ Left W c p ⟨[], [⟨1, snp, [], F.data.toList, 0⟩], 1, [], false, 0, false⟩ w') := fun W c D => by
    have := write_any p c d0 snp F.data.toList W D (by simp [d0, Ds.wt, tot, snp] <;> omega) (by simp [d0])
    rw [ls_w0] at this
    exact this
  have W1 : Hid (∀ W c, DiskIs W c p ⟨[], [⟨1, snp, [], F.data.toList, 0⟩], 1, [], false, 0, false⟩ → Calls Tryz.prog 5 #[.pointer (some ⟨p, 0, none⟩), .string ⟨#[115, 110, 97, 112, 46, 110, 101, 119]⟩, .string G] W fun e w' => e = .returned (.int .i64 0) ∧ Left W c p ⟨[], [⟨1, snp, [], F.data.toList, 0⟩, ⟨1, snw, [], G.data.toList, 0⟩], 2, [], false, 0, false⟩ w') := fun W c D => by
    have := write_any p c _ snw G.data.toList W D (by simp [d0, Ds.wt, tot, snw] <;> omega) (by simp [d0])
    rw [ls_w2] at this
    exact this
  have SY : Hid (∀ W c, DiskIs W c p ⟨[], [⟨1, snp, [], F.data.toList, 0⟩, ⟨1, snw, [], G.data.toList, 0⟩], 2, [], false, 0, false⟩ → Calls Tryz.prog 6 #[.pointer (some ⟨p, 0, none⟩)] W fun e w' => e = .returned (.int .i64 0) ∧ Left W c p (lsD true true F.data.toList G.data.toList) w') := fun W c D => by
    have := sync_all p c _ W D (by simp [d0, Ds.wt, tot] <;> omega)
    rw [ls_s11] at this
    exact this
  have FL : Hid (∀ W c, DiskIs W c p (lsD true true F.data.toList G.data.toList) → Calls Tryz.prog 8 #[.pointer (some ⟨p, 0, none⟩)] W fun e w' => ∃ v, e = .returned v ∧ w'.ownsRow W.heap.size 63 2 v (lsF true true F.data.toList G.data.toList).length (fC (lsF true true F.data.toList G.data.toList)) ∧ Keep (fun _ => False) W w') := fun W c D => files_any p c _ W D rfl (by rw [ls_now]; have := ls_len true true F.data.toList G.data.toList; omega) (ls_nm _ _ _ _) (ls_srt _ _ _ _)
  have RL : Hid (∀ v W, FileRow W 0 v (lsF true true F.data.toList G.data.toList) → Calls Tryz.prog 7 #[v] W fun e w' => ∃ ad cap, e = .returned (.tuple #[shV (.slice ad (lsQ true F.data.toList).s.ms.length cap) (lsQ true F.data.toList).s, .bool (lsQ true F.data.toList).b, .int .i64 (lsQ true F.data.toList).e]) ∧ OwnI w' W.heap.size (.slice ad (lsQ true F.data.toList).s.ms.length cap) (lsQ true F.data.toList).s.ms ∧ Below W.heap.size W w') := fun v W h => by
    have := rload_any _ v W h (ls_srt _ _ _ _) (by have := ls_len true true F.data.toList G.data.toList; omega) (fun y hy => by simp [lsF] at hy; rcases hy with rfl | rfl <;> (simp only; omega))
    rw [ls_rl] at this
    exact this
  have LD : Hid (∀ W c, DiskIs W c p (lsD true true F.data.toList G.data.toList) → Calls Tryz.prog 9 #[.pointer (some ⟨p, 0, none⟩)] W fun e w' => ∃ ad cap, e = .returned (.tuple #[shV (.slice ad (lsQ true F.data.toList).s.ms.length cap) (lsQ true F.data.toList).s, .bool (lsQ true F.data.toList).b, .int .i64 (lsQ true F.data.toList).e]) ∧ IntsI w' (.slice ad (lsQ true F.data.toList).s.ms.length cap) (lsQ true F.data.toList).s.ms ∧ Left W c p (lsE true true F.data.toList) w') := fun W c D => by
    have hGe : true = false → G.data.toList = ([] : Bs) := by intro h; cases h
    have hq := ls_spd true true F.data.toList G.data.toList hGe
    have := load_any p c _ W D (ls_ok _ _ _ _ hGe (by simp <;> omega) (by simp <;> omega)) (by rw [hq]; simp only; rw [ls_rd]; simp <;> omega)
    rw [ls_ld _ _ _ _ hGe, hq] at this
    exact this
  have RD : Hid (∀ W c, DiskIs W c p (lsE true true F.data.toList) → Calls Tryz.prog 10 #[.pointer (some ⟨p, 0, none⟩), .string ⟨#[115, 110, 97, 112, 46, 110, 101, 119]⟩] W fun e w' => e = .returned (.tuple #[.string ⟨#[]⟩, .int .i64 4]) ∧ Keep (fun _ => False) W w') := fun W c D => by
    have := read_any p c _ snw W D
    rw [ls_rdn] at this
    exact this
  have LN : Hid (∀ W, Calls Tryz.prog 9 #[.pointer none] W fun e w' => e = .returned (.tuple #[.agg #[.int .i64 0, .int .i64 0, .slice none 0 0, .string ⟨#[]⟩], .bool false, .int .i64 1]) ∧ Below W.heap.size W w') := fun W => load_nil W
  have WT : Hid (∀ W c, DiskIs W c p (lsE true true F.data.toList) → Calls Tryz.prog 14 #[.pointer (some ⟨p, 0, none⟩)] W fun e w' => e = .returned (.int .i64 0) ∧ Below W.heap.size W w') := fun W c D => (waits_any p c _ W D).mono fun e w' ⟨he, hw⟩ => ⟨he, by subst hw; exact Below.refl _ _⟩
  have AW := hid (fun W => awake7 W)
  have HMQ : (lsQ true F.data.toList).s.ms.length ≤ 9223372036854775807 := ls_ms _ _
  generalize lsQ true F.data.toList = Q at *
  have HML0 : Q.s.ms.length ≤ 9223372036854775807 := HMQ
  obtain ⟨S, qb, qe⟩ := Q
  simp only at RL LD HML0
  unfold shV at RL LD
  have hms : Hid (∀ (u z : Value) W, IntsI W u S.ms → IntsI W z S.ms → S.ms.length ≤ 9223372036854775807 → Calls Tryz.prog 12 #[.agg #[.int .i64 S.ix, .int .i64 S.tm, u, .string S.da], .agg #[.int .i64 S.ix, .int .i64 S.tm, z, .string S.da]] W fun e w' => e = .returned (.bool true) ∧ Below W.heap.size W w') := fun u z W hu hz hl => by
    have := rsame_any u z S S W hu hz hl
    rw [show smS S S = true from by simp [smS]] at this
    exact this
  obtain ⟨ix, tm, ms, da⟩ := S
  simp only at *
  have HML := hid HML0
  clear HMQ HML0
  generalize lsF true true F.data.toList G.data.toList = A0 at *
  generalize lsD true true F.data.toList G.data.toList = D1 at *
  generalize lsE true true F.data.toList = D2 at *
  generalize (⟨[], [⟨1, snp, [], F.data.toList, 0⟩], 1, [], false, 0, false⟩ : Ds) = Da at *
  generalize (⟨[], [⟨1, snp, [], F.data.toList, 0⟩, ⟨1, snw, [], G.data.toList, 0⟩], 2, [], false, 0, false⟩ : Ds) = Db at *
  clear hF hG hF' hG' tF tG hp
  go_enter Tryz.func3, Tryz.ntmps3
  go_wp2_with fail
  refine NW.out.mono ?_
  rintro e w1 ⟨rfl, hD, hk⟩
  have H0 := hid (left_same hD (Keep.refl _ w1))
  have HK := hid hk
  clear hD hk NW
  go_wp2_with fail
  refine (stepL H0.out W0.out).mono ?_
  rintro e wq1 ⟨rfl, hL⟩
  have H1 := hid hL
  clear hL H0 W0
  go_wp2_with fail
  refine (stepL H1.out W1.out).mono ?_
  rintro e wq2 ⟨rfl, hL⟩
  have H2 := hid hL
  clear hL H1 W1
  go_wp2_with fail
  refine (stepL H2.out SY.out).mono ?_
  rintro e wq3 ⟨rfl, hL⟩
  have H3 := hid hL
  clear hL H2 SY
  obtain ⟨⟨ci, DI, hci⟩, KI⟩ := H3.out
  have DIh := hid DI
  have HLs := hid (H3.out)
  clear DI hci KI H3
  go_wp2_with fail
  refine (FL.out _ _ DIh.out).mono ?_
  rintro e w3 ⟨v, rfl, ho, hk⟩
  have HV : Hid (FileRow w3 0 v A0) := ownsRow_base ho (Nat.zero_le _)
  have K3 := hid hk
  clear ho hk FL DIh
  go_wp2_with fail
  refine (RL.out _ _ HV.out).mono ?_
  rintro e w4 ⟨a1, c1, rfl, ho, hb⟩
  have O4 : Hid (OwnI w4 wq3.heap.size (.slice a1 ms.length c1) ms) := ownsRow_base ho K3.out.size
  have K4 : Hid (Keep (fun _ => False) wq3 (w4.alloc (.cells #[.int .i64 ix, .int .i64 tm, .slice a1 ms.length c1, .string da] 29))) := (K3.out.trans (hb.keep _)).trans (keep_alloc _ _ _)
  have HS4 : Hid (wq3.heap.size ≤ w4.heap.size) := Nat.le_trans K3.out.size hb.size
  have R4 : Hid (RowIs (w4.alloc (.cells #[.int .i64 ix, .int .i64 tm, .slice a1 ms.length c1, .string da] 29)) w4.heap.size [.int .i64 ix, .int .i64 tm, .slice a1 ms.length c1, .string da] 29) := srow w4 _ _
  have O5 := hid (own_new O4.out (.cells #[.int .i64 ix, .int .i64 tm, .slice a1 ms.length c1, .string da] 29))
  obtain ⟨c2, hL2, h7, htr⟩ := left_fresh HLs.out K4.out
  have L5 := hid hL2
  have H7 := hid h7
  have TR := hid htr
  clear hL2 h7 htr ho hb K3 O4 RL HV HLs
  go_wp2_with fail
  obtain ⟨⟨ci, DI, hci⟩, KI⟩ := L5.out
  have hLT : ∀ W, Left _ ci p D2 W → Left _ c2 p D2 W := fun W h => Left.trans hci KI h
  have HLT := hid hLT
  clear hLT
  refine (LD.out _ _ DI).mono ?_
  rintro e w6 ⟨a2, c3, rfl, hI, hL⟩
  have L6 := hid (HLT.out _ hL)
  clear HLT DI hci KI LD hL
  have I6 := hid hI
  clear hI
  have O6 : Hid (OwnI w6 wq3.heap.size (.slice a1 ms.length c1) ms) := fresh_row O5.out H7.out L6.out
  have R6 : Hid (RowIs w6 w4.heap.size [.int .i64 ix, .int .i64 tm, .slice a1 ms.length c1, .string da] 29) := R4.out.keep L6.out.2 (fun e => by have h8 := H7.out w4.heap.size HS4.out; have e' : c2 w4.heap.size < 6 := e; omega)
  have T6 := hid (TR.out _ _ L6.out)
  clear O5 R4 L5 L6 TR H7 K4
  have HS6 : Hid (w4.heap.size < w6.heap.size) := R6.out.lt
  have R7 : Hid (RowIs (w6.alloc (.cells #[.int .i64 ix, .int .i64 tm, .slice a2 ms.length c3, .string da] 34)) w6.heap.size [.int .i64 ix, .int .i64 tm, .slice a2 ms.length c3, .string da] 34) := srow w6 _ _
  have AL := hid (below_al (Below.refl w6.heap.size w6) (.cells #[.int .i64 ix, .int .i64 tm, .slice a2 ms.length c3, .string da] 34))
  have T7 := hid (T6.out.keepR (AL.out.keep _))
  clear T6
  go_wp2_with fail
  obtain ⟨⟨ci, DI, hci⟩, KI⟩ := T7.out
  refine (RD.out _ _ DI).mono ?_
  rintro e w8 ⟨rfl, hk⟩
  have B8 : Hid (Below (w6.alloc (.cells #[.int .i64 ix, .int .i64 tm, .slice a2 ms.length c3, .string da] 34)).heap.size (w6.alloc (.cells #[.int .i64 ix, .int .i64 tm, .slice a2 ms.length c3, .string da] 34)) w8) := keep_below hk (fun _ _ h => h.elim) (Nat.le_refl _)
  clear DI hci KI hk RD
  go_wp2_with fail
  refine (LN.out _).mono ?_
  rintro e w9 ⟨rfl, hb⟩
  have B9 := hid (below_al (below_on B8.out hb) (.cells #[.int .i64 0, .int .i64 0, .slice none 0 0, .string ⟨#[]⟩] 34))
  clear hb B8 LN
  have T9 := hid (T7.out.keepR (B9.out.keep _))
  have R9 := hid (R7.out.keep (B9.out.keep (fun _ => False)) (fun h => h))
  have I9 := hid ((I6.out.next AL.out).next B9.out)
  have O9 := hid ((O6.out.next AL.out).next B9.out)
  have V9 := hid ((R6.out.keep (AL.out.keep (fun _ => False)) (fun h => h)).keep (B9.out.keep (fun _ => False)) (fun h => h))
  have hml : Hid (ms.length ≤ 9223372036854775807) := HML
  clear T7 R7 I6 O6 R6 AL B9
  go_upto_region 8 with fail
  generalize w9.alloc (.cells #[.int .i64 0, .int .i64 0, .slice none 0 0, .string ⟨#[]⟩] 34) = X at *
  generalize w6.heap.size = q at *
  generalize w4.heap.size = q2 at *
  have ZC : Hid (∀ W, Below X.heap.size X W → (fun w' => w'.cell? ⟨q, 0, none⟩ = some (.int .i64 ix) ∧ w'.cell? ⟨q, 1, none⟩ = some (.int .i64 tm) ∧ w'.cell? ⟨q, 2, none⟩ = some (.slice a2 ms.length c3) ∧ w'.cell? ⟨q, 3, none⟩ = some (.string da) ∧ w'.cell? ⟨q2, 0, none⟩ = some (.int .i64 ix) ∧ w'.cell? ⟨q2, 1, none⟩ = some (.int .i64 tm) ∧ w'.cell? ⟨q2, 2, none⟩ = some (.slice a1 ms.length c1) ∧ w'.cell? ⟨q2, 3, none⟩ = some (.string da)) W) := fun W hW => by
    have m1 := R9.out.keep (hW.keep (fun _ => False)) (fun h => h)
    have m2 := V9.out.keep (hW.keep (fun _ => False)) (fun h => h)
    exact ⟨m1.cellAt rfl, m1.cellAt rfl, m1.cellAt rfl, m1.cellAt rfl, m2.cellAt rfl, m2.cellAt rfl, m2.cellAt rfl, m2.cellAt rfl⟩
  have AWX : Hid (∀ W, Below X.heap.size X W → Calls Tryz.prog 11 #[] W fun e w' => e = .returned (.bool true) ∧ Below W.heap.size W w') := fun W _ => AW.out W
  have RFX : Hid (∀ W, Below X.heap.size X W → Calls Tryz.prog 13 #[.agg #[.int .i64 ix, .int .i64 tm, .slice a2 ms.length c3, .string da]] W fun e w' => e = .returned (.agg #[.int .i64 ix, .int .i64 tm, .slice a2 ms.length c3, .string da]) ∧ Below W.heap.size W w') := fun W _ => refOf_any a2 ms.length c3 ⟨ix, tm, [], da⟩ W
  have SMX : Hid (∀ W, Below X.heap.size X W → Calls Tryz.prog 12 #[.agg #[.int .i64 ix, .int .i64 tm, .slice a2 ms.length c3, .string da], .agg #[.int .i64 ix, .int .i64 tm, .slice a1 ms.length c1, .string da]] W fun e w' => e = .returned (.bool true) ∧ Below W.heap.size W w') := fun W hW => hms.out _ _ W (I9.out.next hW) ((O9.out.next hW).ints) hml.out
  have WTX : Hid (∀ W, Below X.heap.size X W → Calls Tryz.prog 14 #[.pointer (some ⟨p, 0, none⟩)] W fun e w' => e = .returned (.int .i64 0) ∧ Below W.heap.size W w') := fun W hW => by
    obtain ⟨⟨ci, DI, hci⟩, KI⟩ := T9.out.keepR (hW.keep _)
    exact WT.out W ci DI
  have D0 := hid (Below.refl X.heap.size X).drew
  clear AW hms I9 O9 R9 V9 WT hml
  refine wp_region_held_drew (S := (fun w' => w'.cell? ⟨q, 0, none⟩ = some (.int .i64 ix) ∧ w'.cell? ⟨q, 1, none⟩ = some (.int .i64 tm) ∧ w'.cell? ⟨q, 2, none⟩ = some (.slice a2 ms.length c3) ∧ w'.cell? ⟨q, 3, none⟩ = some (.string da) ∧ w'.cell? ⟨q2, 0, none⟩ = some (.int .i64 ix) ∧ w'.cell? ⟨q2, 1, none⟩ = some (.int .i64 tm) ∧ w'.cell? ⟨q2, 2, none⟩ = some (.slice a1 ms.length c1) ∧ w'.cell? ⟨q2, 3, none⟩ = some (.string da))) (by kernel_rfl) (ZC.out _ D0.out) (fun hHeld => ?_)
  refine wpAnyH_ready (rs := [0]) (by kernel_rfl) (by simp) ?_
  refine AllReadyH.cons rfl (fun K hK => ?_) AllReadyH.nil
  go_simp
  refine (AWX.out _ D0.out).mono ?_
  rintro e wq13 ⟨rfl, bq⟩
  have BQ13 := hid (below_on D0.out bq)
  clear bq hHeld
  go_wp2_with fail
  refine hK.out _ _ (ZC.out _ BQ13.out) (fun hHeld => ?_)
  clear hK K
  try simp only [Act.put, List.getElem_toArray, List.getElem_cons_succ, List.getElem_cons_zero, List.setIfInBounds_toArray, List.set_cons_zero, List.set_cons_succ]
  refine wpAnyH_take (i := 1) (v := ?vv82) rfl (by kernel_rfl) (by kernel_rfl) (by kernel_rfl) (fun _ _ _ h => h) (Or.inl ⟨by rfl, ?hy82⟩) (by assumption) ?rest82
  case hy82 => (intro w hSw; (try dsimp only at hSw); go_simp; first | done | with_reducible rfl)
  try simp only [Act.put, List.getElem_toArray, List.getElem_cons_succ, List.getElem_cons_zero, List.setIfInBounds_toArray, List.set_cons_zero, List.set_cons_succ]
  refine wpAnyH_take (i := 2) (v := ?vv83) rfl (by kernel_rfl) (by kernel_rfl) (by kernel_rfl) (fun _ _ _ h => h) (Or.inl ⟨by rfl, ?hy83⟩) (by assumption) ?rest83
  case hy83 => (intro w hSw; (try dsimp only at hSw); go_simp; first | done | with_reducible rfl)
  try simp only [Act.put, List.getElem_toArray, List.getElem_cons_succ, List.getElem_cons_zero, List.setIfInBounds_toArray, List.set_cons_zero, List.set_cons_succ]
  refine wpAnyH_take (i := 3) (v := ?vv84) rfl (by kernel_rfl) (by kernel_rfl) (by kernel_rfl) (fun _ _ _ h => h) (Or.inl ⟨by rfl, ?hy84⟩) (by assumption) ?rest84
  case hy84 => (intro w hSw; (try dsimp only at hSw); go_simp; first | done | with_reducible rfl)
  try simp only [Act.put, List.getElem_toArray, List.getElem_cons_succ, List.getElem_cons_zero, List.setIfInBounds_toArray, List.set_cons_zero, List.set_cons_succ]
  refine wpAnyH_take (i := 4) (v := ?vv85) rfl (by kernel_rfl) (by kernel_rfl) (by kernel_rfl) (fun _ _ _ h => h) (Or.inl ⟨by rfl, ?hy85⟩) (by assumption) ?rest85
  case hy85 => (intro w hSw; (try dsimp only at hSw); go_simp; first | done | with_reducible rfl)
  try simp only [Act.put, List.getElem_toArray, List.getElem_cons_succ, List.getElem_cons_zero, List.setIfInBounds_toArray, List.set_cons_zero, List.set_cons_succ]
  refine wpAnyH_take (i := 5) (v := ?vv86) rfl (by kernel_rfl) (by kernel_rfl) (by kernel_rfl) (fun _ _ _ h => h) (Or.inl ⟨by rfl, ?hy86⟩) (by assumption) ?rest86
  case hy86 => (intro w hSw; (try dsimp only at hSw); go_simp; first | done | with_reducible rfl)
  try simp only [Act.put, List.getElem_toArray, List.getElem_cons_succ, List.getElem_cons_zero, List.setIfInBounds_toArray, List.set_cons_zero, List.set_cons_succ]
  refine wpAnyH_take (i := 6) (v := ?vv87) rfl (by kernel_rfl) (by kernel_rfl) (by kernel_rfl) (fun _ _ _ h => h) (Or.inl ⟨by rfl, ?hy87⟩) (by assumption) ?rest87
  case hy87 => (intro w hSw; (try dsimp only at hSw); go_simp; first | done | with_reducible rfl)
  try simp only [Act.put, List.getElem_toArray, List.getElem_cons_succ, List.getElem_cons_zero, List.setIfInBounds_toArray, List.set_cons_zero, List.set_cons_succ]
  refine wpAnyH_take (i := 7) (v := ?vv88) rfl (by kernel_rfl) (by kernel_rfl) (by kernel_rfl) (fun _ _ _ h => h) (Or.inl ⟨by rfl, ?hy88⟩) (by assumption) ?rest88
  case hy88 => (intro w hSw; (try dsimp only at hSw); go_simp; first | done | with_reducible rfl)
  try simp only [Act.put, List.getElem_toArray, List.getElem_cons_succ, List.getElem_cons_zero, List.setIfInBounds_toArray, List.set_cons_zero, List.set_cons_succ]
  refine wpAnyH_take (i := 8) (v := ?vv89) rfl (by kernel_rfl) (by kernel_rfl) (by kernel_rfl) (fun _ _ _ h => h) (Or.inl ⟨by rfl, ?hy89⟩) (by assumption) ?rest89
  case hy89 => (intro w hSw; (try dsimp only at hSw); go_simp; first | done | with_reducible rfl)
  try simp only [Act.put, List.getElem_toArray, List.getElem_cons_succ, List.getElem_cons_zero, List.setIfInBounds_toArray, List.set_cons_zero, List.set_cons_succ]
  refine wpAnyH_take (i := 9) (v := ?vv90) rfl (by kernel_rfl) (by kernel_rfl) (by kernel_rfl) (fun _ _ _ h => h) (Or.inl ⟨by rfl, ?hy90⟩) (by assumption) ?rest90
  case hy90 => (intro w hSw; (try dsimp only at hSw); go_simp; first | done | with_reducible rfl)
  try simp only [Act.put, List.getElem_toArray, List.getElem_cons_succ, List.getElem_cons_zero, List.setIfInBounds_toArray, List.set_cons_zero, List.set_cons_succ]
  refine wpAnyH_take (i := 10) (v := ?vv91) rfl (by kernel_rfl) (by kernel_rfl) (by kernel_rfl) (fun _ _ _ h => h) (Or.inl ⟨by rfl, ?hy91⟩) (by assumption) ?rest91
  case hy91 => (intro w hSw; (try dsimp only at hSw); go_simp; first | done | with_reducible rfl)
  try simp only [Act.put, List.getElem_toArray, List.getElem_cons_succ, List.getElem_cons_zero, List.setIfInBounds_toArray, List.set_cons_zero, List.set_cons_succ]
  refine wpAnyH_take (i := 11) (v := ?vv92) rfl (by kernel_rfl) (by kernel_rfl) (by kernel_rfl) (fun _ _ _ h => h) (Or.inl ⟨by rfl, ?hy92⟩) (by assumption) ?rest92
  case hy92 => (intro w hSw; (try dsimp only at hSw); go_simp; first | done | with_reducible rfl)
  try simp only [Act.put, List.getElem_toArray, List.getElem_cons_succ, List.getElem_cons_zero, List.setIfInBounds_toArray, List.set_cons_zero, List.set_cons_succ]
  refine wpAnyH_take (i := 12) (v := ?vv93) rfl (by kernel_rfl) (by kernel_rfl) (by kernel_rfl) (fun _ _ _ h => h) (Or.inl ⟨by rfl, ?hy93⟩) (by assumption) ?rest93
  case hy93 => (intro w hSw; (try dsimp only at hSw); go_simp; first | done | with_reducible rfl)
  try simp only [Act.put, List.getElem_toArray, List.getElem_cons_succ, List.getElem_cons_zero, List.setIfInBounds_toArray, List.set_cons_zero, List.set_cons_succ]
  refine wpAnyH_take (i := 14) (v := ?vv94) rfl (by kernel_rfl) (by kernel_rfl) (by kernel_rfl) (fun _ _ _ h => h) (Or.inl ⟨by rfl, ?hy94⟩) (by assumption) ?rest94
  case hy94 => (intro w hSw; (try dsimp only at hSw); go_simp; first | done | with_reducible rfl)
  try simp only [Act.put, List.getElem_toArray, List.getElem_cons_succ, List.getElem_cons_zero, List.setIfInBounds_toArray, List.set_cons_zero, List.set_cons_succ]
  refine wpAnyH_ready (rs := [13]) (by kernel_rfl) (by simp) ?_
  refine AllReadyH.cons rfl (fun K hK => ?_) AllReadyH.nil
  go_simp
  refine (RFX.out _ BQ13.out).mono ?_
  rintro e wq14 ⟨rfl, bq⟩
  have BQ14 := hid (below_on BQ13.out bq)
  clear bq hHeld
  go_wp2_with fail
  refine hK.out _ _ (ZC.out _ BQ14.out) (fun hHeld => ?_)
  clear hK K
  try simp only [Act.put, List.getElem_toArray, List.getElem_cons_succ, List.getElem_cons_zero, List.setIfInBounds_toArray, List.set_cons_zero, List.set_cons_succ]
  refine wpAnyH_ready (rs := [15]) (by kernel_rfl) (by simp) ?_
  refine AllReadyH.cons rfl (fun K hK => ?_) AllReadyH.nil
  go_simp
  refine (SMX.out _ BQ14.out).mono ?_
  rintro e wq15 ⟨rfl, bq⟩
  have BQ15 := hid (below_on BQ14.out bq)
  clear bq hHeld
  go_wp2_with fail
  refine hK.out _ _ (ZC.out _ BQ15.out) (fun hHeld => ?_)
  clear hK K
  try simp only [Act.put, List.getElem_toArray, List.getElem_cons_succ, List.getElem_cons_zero, List.setIfInBounds_toArray, List.set_cons_zero, List.set_cons_succ]
  refine wpAnyH_take (i := 16) (v := ?vv95) rfl (by kernel_rfl) (by kernel_rfl) (by kernel_rfl) (fun _ _ _ h => h) (Or.inl ⟨by rfl, ?hy95⟩) (by assumption) ?rest95
  case hy95 => (intro w hSw; (try dsimp only at hSw); go_simp; first | done | with_reducible rfl)
  try simp only [Act.put, List.getElem_toArray, List.getElem_cons_succ, List.getElem_cons_zero, List.setIfInBounds_toArray, List.set_cons_zero, List.set_cons_succ]
  refine wpAnyH_take (i := 17) (v := ?vv96) rfl (by kernel_rfl) (by kernel_rfl) (by kernel_rfl) (fun _ _ _ h => h) (Or.inl ⟨by rfl, ?hy96⟩) (by assumption) ?rest96
  case hy96 => (intro w hSw; (try dsimp only at hSw); go_simp; first | done | with_reducible rfl)
  try simp only [Act.put, List.getElem_toArray, List.getElem_cons_succ, List.getElem_cons_zero, List.setIfInBounds_toArray, List.set_cons_zero, List.set_cons_succ]
  refine wpAnyH_take (i := 18) (v := ?vv97) rfl (by kernel_rfl) (by kernel_rfl) (by kernel_rfl) (fun _ _ _ h => h) (Or.inl ⟨by rfl, ?hy97⟩) (by assumption) ?rest97
  case hy97 => (intro w hSw; (try dsimp only at hSw); go_simp; first | done | with_reducible rfl)
  try simp only [Act.put, List.getElem_toArray, List.getElem_cons_succ, List.getElem_cons_zero, List.setIfInBounds_toArray, List.set_cons_zero, List.set_cons_succ]
  refine wpAnyH_take (i := 19) (v := ?vv98) rfl (by kernel_rfl) (by kernel_rfl) (by kernel_rfl) (fun _ _ _ h => h) (Or.inl ⟨by rfl, ?hy98⟩) (by assumption) ?rest98
  case hy98 => (intro w hSw; (try dsimp only at hSw); go_simp; first | done | with_reducible rfl)
  try simp only [Act.put, List.getElem_toArray, List.getElem_cons_succ, List.getElem_cons_zero, List.setIfInBounds_toArray, List.set_cons_zero, List.set_cons_succ]
  refine wpAnyH_take (i := 20) (v := ?vv99) rfl (by kernel_rfl) (by kernel_rfl) (by kernel_rfl) (fun _ _ _ h => h) (Or.inl ⟨by rfl, ?hy99⟩) (by assumption) ?rest99
  case hy99 => (intro w hSw; (try dsimp only at hSw); go_simp; first | done | with_reducible rfl)
  try simp only [Act.put, List.getElem_toArray, List.getElem_cons_succ, List.getElem_cons_zero, List.setIfInBounds_toArray, List.set_cons_zero, List.set_cons_succ]
  refine wpAnyH_take (i := 21) (v := ?vv100) rfl (by kernel_rfl) (by kernel_rfl) (by kernel_rfl) (fun _ _ _ h => h) (Or.inl ⟨by rfl, ?hy100⟩) (by assumption) ?rest100
  case hy100 => (intro w hSw; (try dsimp only at hSw); go_simp; first | done | with_reducible rfl)
  try simp only [Act.put, List.getElem_toArray, List.getElem_cons_succ, List.getElem_cons_zero, List.setIfInBounds_toArray, List.set_cons_zero, List.set_cons_succ]
  refine wpAnyH_take (i := 22) (v := ?vv101) rfl (by kernel_rfl) (by kernel_rfl) (by kernel_rfl) (fun _ _ _ h => h) (Or.inl ⟨by rfl, ?hy101⟩) (by assumption) ?rest101
  case hy101 => (intro w hSw; (try dsimp only at hSw); go_simp; first | done | with_reducible rfl)
  try simp only [Act.put, List.getElem_toArray, List.getElem_cons_succ, List.getElem_cons_zero, List.setIfInBounds_toArray, List.set_cons_zero, List.set_cons_succ]
  refine wpAnyH_take (i := 23) (v := ?vv102) rfl (by kernel_rfl) (by kernel_rfl) (by kernel_rfl) (fun _ _ _ h => h) (Or.inl ⟨by rfl, ?hy102⟩) (by assumption) ?rest102
  case hy102 => (intro w hSw; (try dsimp only at hSw); go_simp; first | done | with_reducible rfl)
  try simp only [Act.put, List.getElem_toArray, List.getElem_cons_succ, List.getElem_cons_zero, List.setIfInBounds_toArray, List.set_cons_zero, List.set_cons_succ]
  refine wpAnyH_take (i := 24) (v := ?vv103) rfl (by kernel_rfl) (by kernel_rfl) (by kernel_rfl) (fun _ _ _ h => h) (Or.inl ⟨by rfl, ?hy103⟩) (by assumption) ?rest103
  case hy103 => (intro w hSw; (try dsimp only at hSw); go_simp; first | done | with_reducible rfl)
  try simp only [Act.put, List.getElem_toArray, List.getElem_cons_succ, List.getElem_cons_zero, List.setIfInBounds_toArray, List.set_cons_zero, List.set_cons_succ]
  refine wpAnyH_take (i := 25) (v := ?vv104) rfl (by kernel_rfl) (by kernel_rfl) (by kernel_rfl) (fun _ _ _ h => h) (Or.inl ⟨by rfl, ?hy104⟩) (by assumption) ?rest104
  case hy104 => (intro w hSw; (try dsimp only at hSw); go_simp; first | done | with_reducible rfl)
  try simp only [Act.put, List.getElem_toArray, List.getElem_cons_succ, List.getElem_cons_zero, List.setIfInBounds_toArray, List.set_cons_zero, List.set_cons_succ]
  refine wpAnyH_take (i := 26) (v := ?vv105) rfl (by kernel_rfl) (by kernel_rfl) (by kernel_rfl) (fun _ _ _ h => h) (Or.inl ⟨by rfl, ?hy105⟩) (by assumption) ?rest105
  case hy105 => (intro w hSw; (try dsimp only at hSw); go_simp; first | done | with_reducible rfl)
  try simp only [Act.put, List.getElem_toArray, List.getElem_cons_succ, List.getElem_cons_zero, List.setIfInBounds_toArray, List.set_cons_zero, List.set_cons_succ]
  refine wpAnyH_ready (rs := [27]) (by kernel_rfl) (by simp) ?_
  refine AllReadyH.cons rfl (fun K hK => ?_) AllReadyH.nil
  go_simp
  refine (WTX.out _ BQ15.out).mono ?_
  rintro e wq16 ⟨rfl, bq⟩
  have BQ16 := hid (below_on BQ15.out bq)
  clear bq hHeld
  go_wp2_with fail
  refine hK.out _ _ (ZC.out _ BQ16.out) (fun hHeld => ?_)
  clear hK K
  try simp only [Act.put, List.getElem_toArray, List.getElem_cons_succ, List.getElem_cons_zero, List.setIfInBounds_toArray, List.set_cons_zero, List.set_cons_succ]
  refine wpAnyH_take (i := 28) (v := ?vv106) rfl (by kernel_rfl) (by kernel_rfl) (by kernel_rfl) (fun _ _ _ h => h) (Or.inl ⟨by rfl, ?hy106⟩) (by assumption) ?rest106
  case hy106 => (intro w hSw; (try dsimp only at hSw); go_simp; first | done | with_reducible rfl)
  try simp only [Act.put, List.getElem_toArray, List.getElem_cons_succ, List.getElem_cons_zero, List.setIfInBounds_toArray, List.set_cons_zero, List.set_cons_succ]
  refine wpAnyH_take (i := 29) (v := ?vv107) rfl (by kernel_rfl) (by kernel_rfl) (by kernel_rfl) (fun _ _ _ h => h) (Or.inl ⟨by rfl, ?hy107⟩) (by assumption) ?rest107
  case hy107 => (intro w hSw; (try dsimp only at hSw); go_simp; first | done | with_reducible rfl)
  try simp only [Act.put, List.getElem_toArray, List.getElem_cons_succ, List.getElem_cons_zero, List.setIfInBounds_toArray, List.set_cons_zero, List.set_cons_succ]
  refine wpAnyH_take (i := 30) (v := ?vv108) rfl (by kernel_rfl) (by kernel_rfl) (by kernel_rfl) (fun _ _ _ h => h) (Or.inl ⟨by rfl, ?hy108⟩) (by assumption) ?rest108
  case hy108 => (intro w hSw; (try dsimp only at hSw); go_simp; first | done | with_reducible rfl)
  try simp only [Act.put, List.getElem_toArray, List.getElem_cons_succ, List.getElem_cons_zero, List.setIfInBounds_toArray, List.set_cons_zero, List.set_cons_succ]
  refine wpAnyH_done (by kernel_rfl) ?_ _
  clear hHeld ZC
  go_wp2
  go_ret
  have k : Keep (fun k => c0 p k < 6) w _ := (HK.out.mono (fun _ _ h => h.elim)).trans (T9.out.keepR (BQ16.out.keep _)).2
  refine ⟨rfl, keep_below k (fun j hj h => ?_) (Nat.le_refl _)⟩
  have h' : (if j = p then 0 else 7) < 6 := h
  rw [if_neg (by have := HP.out; omega)] at h'
  omega
theorem shotLoads_walk (F G : ByteArray) (x : Int) (w : World) (hF : F.size ≤ 1048576) (hG : G.size ≤ 1048576) (hw : (Lit.int .i64 x).wf = true) : Calls Tryz.prog 3 #[.string F, .string G, .int .i64 x] w fun e w' => e = .returned (.bool true) ∧ Below w.heap.size w w' := by
  cases h1 : (bits .and .i64 x 1 == 1) <;> cases h2 : (bits .and .i64 x 2 == 2)
  · exact loads_00 F G x w hF hG h1 h2
  · exact loads_01 F G x w hF hG h1 h2
  · exact loads_10 F G x w hF hG h1 h2
  · exact loads_11 F G x w hF hG h1 h2
end Go.Proofs.YtflecoplpdbonaaGreat
