/- The walk of the law CmdBack. -/
import Derived.Test.YtikkpfchbcfhlaaJoined24
import Derived.Test.YtikkpfchbcfhlaaCmP
import Derived.Test.YtikkpfchbcfhlaaCmZ
namespace Go.Proofs.Ytikkpfchbcfhlaa
open Go.RowKit Go.Maps
set_option linter.unusedVariables false
set_option linter.unusedSimpArgs false

theorem maxL_of {w : World} (h : w.ShapedOpen Try.prog) : MaxL w := containsLaid.s1_3 w h
set_option maxRecDepth 100000 in
set_option maxHeartbeats 4000000 in
theorem cmdBack_walk (pv kv : Value) (c : Cm) (s : ByteArray) (w : World) (hp : PcI w pv c.ps) (hk : PkI w kv c.ks) (hz : ibulk.SzMb c) (hs : s.size ≤ reachBytes) (hm : MaxL w) : Calls Try.prog 3 #[cmV pv kv c, .string s] w fun e w' => e = .returned (.bool true) ∧ Below w.heap.size w w' := by
  have hsz : s.size ≤ 140737488355328 := Nat.le_trans hs (Nat.le_of_lt reachBytes_lt)
  obtain ⟨pa, pc, rfl, -⟩ := hp.form
  obtain ⟨ka, kc, rfl, -⟩ := hk.form
  have hkl : c.ks.length ≤ 8796093022208 := by have := hz.kl; omega
  have EN : Hid (∀ W, Below w.heap.size w W → Calls Try.prog 4 #[cmV (.slice pa c.ps.length pc) (.slice ka c.ks.length kc) c] W fun e w' => e = .returned (.tuple #[.string (cmT c), .int .i64 (ckN c)]) ∧ Below W.heap.size W w') := fun W hW => cencode_any _ _ c W (hp.next hW) (hk.next hW) hkl (hm.keep (hW.keep _))
  have hT : (cmT c).size ≤ 140737488355328 := by
    unfold cmT
    split
    · rename_i h
      have := cmB_len (cm_bd h)
      show (cmB c).toArray.size ≤ _
      rw [List.size_toArray]
      omega
    · show (0 : Nat) ≤ _; omega
  have DB : Hid (cmOk c = true → ∀ W, Below w.heap.size w W → Calls Try.prog 5 #[.string (cmT c)] W fun q w' => ∃ pa2 pc2 ka2 kc2, q = .returned (.tuple #[cmV (.slice pa2 c.ps.length pc2) (.slice ka2 c.ks.length kc2) c, .int .i64 0]) ∧ PcI w' (.slice pa2 c.ps.length pc2) c.ps ∧ PkI w' (.slice ka2 c.ks.length kc2) c.ks ∧ Below W.heap.size W w') := fun ho W hW => by
    have := cdecode_any (cmT c) W hT (hm.keep (hW.keep _))
    rw [(cc_enc ho).2.1, (cc_enc ho).2.2] at this
    refine this.mono fun q w' ⟨p1, k1, hq, h1, h2, hb⟩ => ?_
    obtain ⟨pa2, pc2, rfl⟩ := h1.form
    obtain ⟨ka2, kc2, rfl⟩ := h2.form
    exact ⟨pa2, pc2, ka2, kc2, hq, h1.pcs, h2.pks, hb⟩
  have RF : Hid (∀ p1 k1 W, PcI W p1 c.ps → PkI W k1 c.ks → Calls Try.prog 7 #[cmV p1 k1 c] W fun e w' => ∃ p2 k2, e = .returned (cmV p2 k2 c) ∧ PcI w' p2 c.ps ∧ PkI w' k2 c.ks ∧ Below W.heap.size W w') := fun p1 k1 W h1 h2 => (cref_any p1 k1 c W h1 h2 hz.pl hz.kl).mono fun e w' ⟨p2, k2, he, ho, hok, hb⟩ => ⟨p2, k2, he, ho.pcs, hok.pks, hb⟩
  have SM : Hid (∀ p1 k1 p2 k2 W, PcI W p1 c.ps → PkI W k1 c.ks → PcI W p2 c.ps → PkI W k2 c.ks → Calls Try.prog 6 #[cmV p1 k1 c, cmV p2 k2 c] W fun e w' => e = .returned (.bool true) ∧ Below W.heap.size W w') := fun p1 k1 p2 k2 W h1 h2 h3 h4 => rsm_true p1 k1 p2 k2 c c W h1 h2 h3 h4 (by have := hz.pl; omega) hkl rfl rfl rfl rfl rfl rfl rfl rfl rfl rfl rfl
  have DS : Hid (∀ W, Below w.heap.size w W → Calls Try.prog 5 #[.string s] W fun q w' => ∃ pa3 pc3 ka3 kc3, q = .returned (.tuple #[cmV (.slice pa3 (cdC s).ps.length pc3) (.slice ka3 (cdC s).ks.length kc3) (cdC s), .int .i64 (cdCE s)]) ∧ PcI w' (.slice pa3 (cdC s).ps.length pc3) (cdC s).ps ∧ PkI w' (.slice ka3 (cdC s).ks.length kc3) (cdC s).ks ∧ Below W.heap.size W w') := fun W hW => by
    refine (cdecode_any s W hsz (hm.keep (hW.keep _))).mono fun q w' ⟨p1, k1, hq, h1, h2, hb⟩ => ?_
    obtain ⟨pa3, pc3, rfl⟩ := h1.form
    obtain ⟨ka3, kc3, rfl⟩ := h2.form
    exact ⟨pa3, pc3, ka3, kc3, hq, h1.pcs, h2.pks, hb⟩
  have EB : Hid (ccOk s = true → ∀ p1 k1 W, Below w.heap.size w W → PcI W p1 (cdC s).ps → PkI W k1 (cdC s).ks → Calls Try.prog 4 #[cmV p1 k1 (cdC s)] W fun e w' => e = .returned (.tuple #[.string s, .int .i64 0]) ∧ Below W.heap.size W w') := fun ho p1 k1 W hW h1 h2 => by
    have hok := cc_one ho
    have := cencode_any p1 k1 (cdC s) W h1 h2 (by have := (cm_bd hok.1).kl; omega) (hm.keep (hW.keep _))
    rw [hok.2, show ckN (cdC s) = 0 from by unfold ckN; rw [if_pos hok.1]] at this
    exact this
  have AW : Hid (∀ W, Below w.heap.size w W → Calls Try.prog 8 #[] W fun e w' => e = .returned (.bool true) ∧ Below W.heap.size W w') := fun W hW => awake16 W (hm.keep (hW.keep _))
  have HE : Hid (ckN c = if cmOk c = true then 0 else 1) := rfl
  have HD : Hid (cdCE s = if ccOk s = true then 0 else 3) := rfl
  have HP := hid hp
  have HK := hid hk
  clear hs hsz hm hz hT hkl hp hk
  unfold cmV at *
  generalize cmT c = TT at *
  generalize ckN c = TE at *
  generalize cmOk c = ok at *
  generalize cdCE s = DDE at *
  generalize ccOk s = dk at *
  generalize cdC s = dd at *
  obtain ⟨dkd, dtk, dbk, dky, did, dn, dsm, dps, dks⟩ := dd
  obtain ⟨kd, tk, bk, ky, id, n, sm, ps, ks⟩ := c
  simp only at *
  generalize hpn : ps.length = pn at *
  generalize hkn : ks.length = kn at *
  generalize hdpn : dps.length = dpn at *
  generalize hdkn : dks.length = dkn at *
  clear hpn hkn hdpn hdkn
  have BA := hid (below_al (Below.refl w.heap.size w) (.cells #[.int .i64 kd, .string tk, .string bk, .string ky, .int .i64 id, .int .i64 n, .string sm, .slice pa pn pc, .slice ka kn kc] 25))
  have ZC : Hid (∀ W, Below (w.alloc (.cells #[.int .i64 kd, .string tk, .string bk, .string ky, .int .i64 id, .int .i64 n, .string sm, .slice pa pn pc, .slice ka kn kc] 25)).heap.size (w.alloc (.cells #[.int .i64 kd, .string tk, .string bk, .string ky, .int .i64 id, .int .i64 n, .string sm, .slice pa pn pc, .slice ka kn kc] 25)) W → W.cell? ⟨w.heap.size, 0, none⟩ = some (.int .i64 kd) ∧ W.cell? ⟨w.heap.size, 1, none⟩ = some (.string tk) ∧ W.cell? ⟨w.heap.size, 2, none⟩ = some (.string bk) ∧ W.cell? ⟨w.heap.size, 3, none⟩ = some (.string ky) ∧ W.cell? ⟨w.heap.size, 4, none⟩ = some (.int .i64 id) ∧ W.cell? ⟨w.heap.size, 5, none⟩ = some (.int .i64 n) ∧ W.cell? ⟨w.heap.size, 6, none⟩ = some (.string sm) ∧ W.cell? ⟨w.heap.size, 7, none⟩ = some (.slice pa pn pc) ∧ W.cell? ⟨w.heap.size, 8, none⟩ = some (.slice ka kn kc)) := fun W hW => by
    have q := (srow w [.int .i64 kd, .string tk, .string bk, .string ky, .int .i64 id, .int .i64 n, .string sm, .slice pa pn pc, .slice ka kn kc] 25).keep (hW.keep (fun _ => False)) (fun h => h)
    exact ⟨q.cellAt rfl, q.cellAt rfl, q.cellAt rfl, q.cellAt rfl, q.cellAt rfl, q.cellAt rfl, q.cellAt rfl, q.cellAt rfl, q.cellAt rfl⟩
  have B0 := hid (Below.refl (w.alloc (.cells #[.int .i64 kd, .string tk, .string bk, .string ky, .int .i64 id, .int .i64 n, .string sm, .slice pa pn pc, .slice ka kn kc] 25)).heap.size (w.alloc (.cells #[.int .i64 kd, .string tk, .string bk, .string ky, .int .i64 id, .int .i64 n, .string sm, .slice pa pn pc, .slice ka kn kc] 25)))
  obtain ⟨c0, c1, c2, c3, c4, c5, c6, c7, c8⟩ := ZC.out _ B0.out
  go_enter Try.func3, Try.ntmps3
  go_wp2_with fail
  refine (EN.out _ (below_on BA.out B0.out)).mono ?_
  rintro e w1 ⟨rfl, b1⟩
  have B1 := hid b1
  clear EN b1 B0 c0 c1 c2 c3 c4 c5 c6 c7 c8
  cases ok
  · obtain rfl : TE = 1 := HE.out
    clear DB RF SM HE HP HK
    cases dk
    · obtain rfl : DDE = 3 := HD.out
      clear HD
      clear EB
      go_wp2_with fail
      refine (DS.out _ (below_on BA.out B1.out)).mono ?_
      rintro e w6 ⟨pa3, pc3, ka3, kc3, rfl, i6, j6, b6⟩
      have B6 := hid (below_al (below_on (below_on BA.out B1.out) b6) (.cells #[.int .i64 dkd, .string dtk, .string dbk, .string dky, .int .i64 did, .int .i64 dn, .string dsm, .slice pa3 dpn pc3, .slice ka3 dkn kc3] 25))
      have I6 := hid (i6.next (below_al (Below.refl _ _) (.cells #[.int .i64 dkd, .string dtk, .string dbk, .string dky, .int .i64 did, .int .i64 dn, .string dsm, .slice pa3 dpn pc3, .slice ka3 dkn kc3] 25)))
      have J6 := hid (j6.next (below_al (Below.refl _ _) (.cells #[.int .i64 dkd, .string dtk, .string dbk, .string dky, .int .i64 did, .int .i64 dn, .string dsm, .slice pa3 dpn pc3, .slice ka3 dkn kc3] 25)))
      clear DS i6 j6 b6 ZC BA B1
      clear I6 J6
      go_wp2_with fail
      refine (AW.out _ B6.out).mono ?_
      rintro e w8 ⟨rfl, b8⟩
      have B8 := hid (below_on B6.out b8)
      clear AW b8 B6
      go_wp2
      go_ret
      exact ⟨rfl, B8.out⟩
    · obtain rfl : DDE = 0 := HD.out
      clear HD
      have EB1 := hid (EB.out rfl)
      clear EB
      go_wp2_with fail
      refine (DS.out _ (below_on BA.out B1.out)).mono ?_
      rintro e w6 ⟨pa3, pc3, ka3, kc3, rfl, i6, j6, b6⟩
      have B6 := hid (below_al (below_on (below_on BA.out B1.out) b6) (.cells #[.int .i64 dkd, .string dtk, .string dbk, .string dky, .int .i64 did, .int .i64 dn, .string dsm, .slice pa3 dpn pc3, .slice ka3 dkn kc3] 25))
      have I6 := hid (i6.next (below_al (Below.refl _ _) (.cells #[.int .i64 dkd, .string dtk, .string dbk, .string dky, .int .i64 did, .int .i64 dn, .string dsm, .slice pa3 dpn pc3, .slice ka3 dkn kc3] 25)))
      have J6 := hid (j6.next (below_al (Below.refl _ _) (.cells #[.int .i64 dkd, .string dtk, .string dbk, .string dky, .int .i64 did, .int .i64 dn, .string dsm, .slice pa3 dpn pc3, .slice ka3 dkn kc3] 25)))
      clear DS i6 j6 b6 ZC BA B1
      go_wp2_with fail
      refine (EB1.out _ _ _ B6.out I6.out J6.out).mono ?_
      rintro e w7 ⟨rfl, b7⟩
      have B7 := hid (below_on B6.out b7)
      clear EB1 b7 B6 I6 J6
      go_wp2_with fail
      refine (AW.out _ B7.out).mono ?_
      rintro e w8 ⟨rfl, b8⟩
      have B8 := hid (below_on B7.out b8)
      clear AW b8 B7
      go_wp2
      go_ret
      exact ⟨rfl, B8.out⟩
  · obtain rfl : TE = 0 := HE.out
    have DB1 := hid (DB.out rfl)
    clear DB HE
    go_wp2_with fail
    refine (DB1.out _ (below_on BA.out B1.out)).mono ?_
    rintro e w2 ⟨pa2, pc2, ka2, kc2, rfl, i2, j2, b2⟩
    have B2 := hid (below_al (below_on B1.out b2) (.cells #[.int .i64 kd, .string tk, .string bk, .string ky, .int .i64 id, .int .i64 n, .string sm, .slice pa2 pn pc2, .slice ka2 kn kc2] 25))
    have I2 := hid (i2.next (below_al (Below.refl _ _) (.cells #[.int .i64 kd, .string tk, .string bk, .string ky, .int .i64 id, .int .i64 n, .string sm, .slice pa2 pn pc2, .slice ka2 kn kc2] 25)))
    have J2 := hid (j2.next (below_al (Below.refl _ _) (.cells #[.int .i64 kd, .string tk, .string bk, .string ky, .int .i64 id, .int .i64 n, .string sm, .slice pa2 pn pc2, .slice ka2 kn kc2] 25)))
    have R2 := hid (srow w2 [.int .i64 kd, .string tk, .string bk, .string ky, .int .i64 id, .int .i64 n, .string sm, .slice pa2 pn pc2, .slice ka2 kn kc2] 25)
    clear DB1 i2 j2 b2 B1
    go_upto_region 4 with fail
    generalize w2.alloc (.cells #[.int .i64 kd, .string tk, .string bk, .string ky, .int .i64 id, .int .i64 n, .string sm, .slice pa2 pn pc2, .slice ka2 kn kc2] 25) = V at *
    have ZV : Hid (∀ W, Below V.heap.size V W → (fun w' => w'.cell? ⟨w.heap.size, 0, none⟩ = some (.int .i64 kd) ∧ w'.cell? ⟨w.heap.size, 1, none⟩ = some (.string tk) ∧ w'.cell? ⟨w.heap.size, 2, none⟩ = some (.string bk) ∧ w'.cell? ⟨w.heap.size, 3, none⟩ = some (.string ky) ∧ w'.cell? ⟨w.heap.size, 4, none⟩ = some (.int .i64 id) ∧ w'.cell? ⟨w.heap.size, 5, none⟩ = some (.int .i64 n) ∧ w'.cell? ⟨w.heap.size, 6, none⟩ = some (.string sm) ∧ w'.cell? ⟨w.heap.size, 7, none⟩ = some (.slice pa pn pc) ∧ w'.cell? ⟨w.heap.size, 8, none⟩ = some (.slice ka kn kc) ∧ w'.cell? ⟨w2.heap.size, 0, none⟩ = some (.int .i64 kd) ∧ w'.cell? ⟨w2.heap.size, 1, none⟩ = some (.string tk) ∧ w'.cell? ⟨w2.heap.size, 2, none⟩ = some (.string bk) ∧ w'.cell? ⟨w2.heap.size, 3, none⟩ = some (.string ky) ∧ w'.cell? ⟨w2.heap.size, 4, none⟩ = some (.int .i64 id) ∧ w'.cell? ⟨w2.heap.size, 5, none⟩ = some (.int .i64 n) ∧ w'.cell? ⟨w2.heap.size, 6, none⟩ = some (.string sm) ∧ w'.cell? ⟨w2.heap.size, 7, none⟩ = some (.slice pa2 pn pc2) ∧ w'.cell? ⟨w2.heap.size, 8, none⟩ = some (.slice ka2 kn kc2)) W) := fun W hW => by
      have q := R2.out.keep (hW.keep (fun _ => False)) (fun h => h)
      obtain ⟨a0, a1, a2, a3, a4, a5, a6, a7, a8⟩ := ZC.out _ (below_on B2.out hW)
      exact ⟨a0, a1, a2, a3, a4, a5, a6, a7, a8, q.cellAt rfl, q.cellAt rfl, q.cellAt rfl, q.cellAt rfl, q.cellAt rfl, q.cellAt rfl, q.cellAt rfl, q.cellAt rfl, q.cellAt rfl⟩
    have D0 := hid (Below.refl V.heap.size V).drew
    clear R2
    refine wp_region_held_drew (S := (fun w' => w'.cell? ⟨w.heap.size, 0, none⟩ = some (.int .i64 kd) ∧ w'.cell? ⟨w.heap.size, 1, none⟩ = some (.string tk) ∧ w'.cell? ⟨w.heap.size, 2, none⟩ = some (.string bk) ∧ w'.cell? ⟨w.heap.size, 3, none⟩ = some (.string ky) ∧ w'.cell? ⟨w.heap.size, 4, none⟩ = some (.int .i64 id) ∧ w'.cell? ⟨w.heap.size, 5, none⟩ = some (.int .i64 n) ∧ w'.cell? ⟨w.heap.size, 6, none⟩ = some (.string sm) ∧ w'.cell? ⟨w.heap.size, 7, none⟩ = some (.slice pa pn pc) ∧ w'.cell? ⟨w.heap.size, 8, none⟩ = some (.slice ka kn kc) ∧ w'.cell? ⟨w2.heap.size, 0, none⟩ = some (.int .i64 kd) ∧ w'.cell? ⟨w2.heap.size, 1, none⟩ = some (.string tk) ∧ w'.cell? ⟨w2.heap.size, 2, none⟩ = some (.string bk) ∧ w'.cell? ⟨w2.heap.size, 3, none⟩ = some (.string ky) ∧ w'.cell? ⟨w2.heap.size, 4, none⟩ = some (.int .i64 id) ∧ w'.cell? ⟨w2.heap.size, 5, none⟩ = some (.int .i64 n) ∧ w'.cell? ⟨w2.heap.size, 6, none⟩ = some (.string sm) ∧ w'.cell? ⟨w2.heap.size, 7, none⟩ = some (.slice pa2 pn pc2) ∧ w'.cell? ⟨w2.heap.size, 8, none⟩ = some (.slice ka2 kn kc2))) (by kernel_rfl) (ZV.out _ D0.out) (fun hHeld => ?_)
    refine wpAnyH_take (i := 0) (v := ?vv1) rfl (by kernel_rfl) (by kernel_rfl) (by kernel_rfl) (fun _ _ _ h => h) (Or.inl ⟨by rfl, ?hy1⟩) (by assumption) ?rest1
    case hy1 => (intro w hSw; (try dsimp only at hSw); go_simp; first | done | with_reducible rfl)
    try simp only [Act.put, List.getElem_toArray, List.getElem_cons_succ, List.getElem_cons_zero, List.setIfInBounds_toArray, List.set_cons_zero, List.set_cons_succ]
    refine wpAnyH_take (i := 1) (v := ?vv2) rfl (by kernel_rfl) (by kernel_rfl) (by kernel_rfl) (fun _ _ _ h => h) (Or.inl ⟨by rfl, ?hy2⟩) (by assumption) ?rest2
    case hy2 => (intro w hSw; (try dsimp only at hSw); go_simp; first | done | with_reducible rfl)
    try simp only [Act.put, List.getElem_toArray, List.getElem_cons_succ, List.getElem_cons_zero, List.setIfInBounds_toArray, List.set_cons_zero, List.set_cons_succ]
    refine wpAnyH_take (i := 2) (v := ?vv3) rfl (by kernel_rfl) (by kernel_rfl) (by kernel_rfl) (fun _ _ _ h => h) (Or.inl ⟨by rfl, ?hy3⟩) (by assumption) ?rest3
    case hy3 => (intro w hSw; (try dsimp only at hSw); go_simp; first | done | with_reducible rfl)
    try simp only [Act.put, List.getElem_toArray, List.getElem_cons_succ, List.getElem_cons_zero, List.setIfInBounds_toArray, List.set_cons_zero, List.set_cons_succ]
    refine wpAnyH_take (i := 3) (v := ?vv4) rfl (by kernel_rfl) (by kernel_rfl) (by kernel_rfl) (fun _ _ _ h => h) (Or.inl ⟨by rfl, ?hy4⟩) (by assumption) ?rest4
    case hy4 => (intro w hSw; (try dsimp only at hSw); go_simp; first | done | with_reducible rfl)
    try simp only [Act.put, List.getElem_toArray, List.getElem_cons_succ, List.getElem_cons_zero, List.setIfInBounds_toArray, List.set_cons_zero, List.set_cons_succ]
    refine wpAnyH_take (i := 5) (v := ?vv5) rfl (by kernel_rfl) (by kernel_rfl) (by kernel_rfl) (fun _ _ _ h => h) (Or.inl ⟨by rfl, ?hy5⟩) (by assumption) ?rest5
    case hy5 => (intro w hSw; (try dsimp only at hSw); go_simp; first | done | with_reducible rfl)
    try simp only [Act.put, List.getElem_toArray, List.getElem_cons_succ, List.getElem_cons_zero, List.setIfInBounds_toArray, List.set_cons_zero, List.set_cons_succ]
    refine wpAnyH_ready (rs := [4]) (by kernel_rfl) (by simp) ?_
    refine AllReadyH.cons rfl (fun K hK => ?_) AllReadyH.nil
    go_simp
    refine (RF.out _ _ _ (I2.out.next D0.out) (J2.out.next D0.out)).mono ?_
    rintro e v1 ⟨p4, k4, rfl, i4, j4, b4⟩
    have D1 := hid (below_on D0.out b4)
    have I4 := hid i4
    have J4 := hid j4
    clear i4 j4 b4 hHeld
    go_wp2_with fail
    refine hK.out _ _ (ZV.out _ D1.out) (fun hHeld => ?_)
    clear hK K
    try simp only [Act.put, List.getElem_toArray, List.getElem_cons_succ, List.getElem_cons_zero, List.setIfInBounds_toArray, List.set_cons_zero, List.set_cons_succ]
    refine wpAnyH_ready (rs := [6]) (by kernel_rfl) (by simp) ?_
    refine AllReadyH.cons rfl (fun K hK => ?_) AllReadyH.nil
    go_simp
    refine (RF.out _ _ _ (HP.out.next (below_on BA.out (below_on B2.out D1.out))) (HK.out.next (below_on BA.out (below_on B2.out D1.out)))).mono ?_
    rintro e v2 ⟨p5, k5, rfl, i5, j5, b5⟩
    have D2 := hid (below_on D1.out b5)
    have I5 := hid i5
    have J5 := hid j5
    replace I4 := hid (I4.out.next b5)
    replace J4 := hid (J4.out.next b5)
    clear i5 j5 b5 hHeld
    go_wp2_with fail
    refine hK.out _ _ (ZV.out _ D2.out) (fun hHeld => ?_)
    clear hK K
    try simp only [Act.put, List.getElem_toArray, List.getElem_cons_succ, List.getElem_cons_zero, List.setIfInBounds_toArray, List.set_cons_zero, List.set_cons_succ]
    refine wpAnyH_ready (rs := [7]) (by kernel_rfl) (by simp) ?_
    refine AllReadyH.cons rfl (fun K hK => ?_) AllReadyH.nil
    go_simp
    refine (SM.out _ _ _ _ _ I4.out J4.out I5.out J5.out).mono ?_
    rintro e v3 ⟨rfl, b6⟩
    have D3 := hid (below_on D2.out b6)
    clear b6 hHeld
    go_wp2_with fail
    refine hK.out _ _ (ZV.out _ D3.out) (fun hHeld => ?_)
    clear hK K
    try simp only [Act.put, List.getElem_toArray, List.getElem_cons_succ, List.getElem_cons_zero, List.setIfInBounds_toArray, List.set_cons_zero, List.set_cons_succ]
    refine wpAnyH_take (i := 8) (v := ?vv6) rfl (by kernel_rfl) (by kernel_rfl) (by kernel_rfl) (fun _ _ _ h => h) (Or.inl ⟨by rfl, ?hy6⟩) (by assumption) ?rest6
    case hy6 => (intro w hSw; (try dsimp only at hSw); go_simp; first | done | with_reducible rfl)
    try simp only [Act.put, List.getElem_toArray, List.getElem_cons_succ, List.getElem_cons_zero, List.setIfInBounds_toArray, List.set_cons_zero, List.set_cons_succ]
    refine wpAnyH_take (i := 9) (v := ?vv7) rfl (by kernel_rfl) (by kernel_rfl) (by kernel_rfl) (fun _ _ _ h => h) (Or.inl ⟨by rfl, ?hy7⟩) (by assumption) ?rest7
    case hy7 => (intro w hSw; (try dsimp only at hSw); go_simp; first | done | with_reducible rfl)
    try simp only [Act.put, List.getElem_toArray, List.getElem_cons_succ, List.getElem_cons_zero, List.setIfInBounds_toArray, List.set_cons_zero, List.set_cons_succ]
    refine wpAnyH_done (by kernel_rfl) ?_ _
    have B5 := hid (below_on B2.out D3.out)
    clear I2 J2 I4 J4 I5 J5 D0 D1 D2 D3 ZV RF SM HP HK B2
    cases dk
    · obtain rfl : DDE = 3 := HD.out
      clear HD
      clear EB
      go_wp2_with fail
      refine (DS.out _ (below_on BA.out B5.out)).mono ?_
      rintro e w6 ⟨pa3, pc3, ka3, kc3, rfl, i6, j6, b6⟩
      have B6 := hid (below_al (below_on (below_on BA.out B5.out) b6) (.cells #[.int .i64 dkd, .string dtk, .string dbk, .string dky, .int .i64 did, .int .i64 dn, .string dsm, .slice pa3 dpn pc3, .slice ka3 dkn kc3] 25))
      have I6 := hid (i6.next (below_al (Below.refl _ _) (.cells #[.int .i64 dkd, .string dtk, .string dbk, .string dky, .int .i64 did, .int .i64 dn, .string dsm, .slice pa3 dpn pc3, .slice ka3 dkn kc3] 25)))
      have J6 := hid (j6.next (below_al (Below.refl _ _) (.cells #[.int .i64 dkd, .string dtk, .string dbk, .string dky, .int .i64 did, .int .i64 dn, .string dsm, .slice pa3 dpn pc3, .slice ka3 dkn kc3] 25)))
      clear DS i6 j6 b6 ZC BA B5
      clear I6 J6
      go_wp2_with fail
      refine (AW.out _ B6.out).mono ?_
      rintro e w8 ⟨rfl, b8⟩
      have B8 := hid (below_on B6.out b8)
      clear AW b8 B6
      go_wp2
      go_ret
      exact ⟨rfl, B8.out⟩
    · obtain rfl : DDE = 0 := HD.out
      clear HD
      have EB1 := hid (EB.out rfl)
      clear EB
      go_wp2_with fail
      refine (DS.out _ (below_on BA.out B5.out)).mono ?_
      rintro e w6 ⟨pa3, pc3, ka3, kc3, rfl, i6, j6, b6⟩
      have B6 := hid (below_al (below_on (below_on BA.out B5.out) b6) (.cells #[.int .i64 dkd, .string dtk, .string dbk, .string dky, .int .i64 did, .int .i64 dn, .string dsm, .slice pa3 dpn pc3, .slice ka3 dkn kc3] 25))
      have I6 := hid (i6.next (below_al (Below.refl _ _) (.cells #[.int .i64 dkd, .string dtk, .string dbk, .string dky, .int .i64 did, .int .i64 dn, .string dsm, .slice pa3 dpn pc3, .slice ka3 dkn kc3] 25)))
      have J6 := hid (j6.next (below_al (Below.refl _ _) (.cells #[.int .i64 dkd, .string dtk, .string dbk, .string dky, .int .i64 did, .int .i64 dn, .string dsm, .slice pa3 dpn pc3, .slice ka3 dkn kc3] 25)))
      clear DS i6 j6 b6 ZC BA B5
      go_wp2_with fail
      refine (EB1.out _ _ _ B6.out I6.out J6.out).mono ?_
      rintro e w7 ⟨rfl, b7⟩
      have B7 := hid (below_on B6.out b7)
      clear EB1 b7 B6 I6 J6
      go_wp2_with fail
      refine (AW.out _ B7.out).mono ?_
      rintro e w8 ⟨rfl, b8⟩
      have B8 := hid (below_on B7.out b8)
      clear AW b8 B7
      go_wp2
      go_ret
      exact ⟨rfl, B8.out⟩
end Go.Proofs.Ytikkpfchbcfhlaa
