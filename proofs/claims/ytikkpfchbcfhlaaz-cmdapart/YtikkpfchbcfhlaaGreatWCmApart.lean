/- The walk of the law CmdApart. -/
import Derived.Test.YtikkpfchbcfhlaaGreatJoined25
import Derived.Test.YtikkpfchbcfhlaaGreatCmL
import Derived.Test.YtikkpfchbcfhlaaGreatCmZ
namespace Go.Proofs.YtikkpfchbcfhlaaGreat
open Go.RowKit Go.Maps
set_option linter.unusedVariables false
set_option linter.unusedSimpArgs false

theorem maxL_of {w : World} (h : w.ShapedOpen Tryz.prog) : MaxL w := containsLaid.s1_3 w h
theorem ap_fin {w W : World} {t : TypeId} {cs : List Value} (u : Value) (h : RowIs W w.heap.size cs t) (b : Below w.heap.size w W) : RowIs (W.setCell ⟨w.heap.size, 1, none⟩ u) w.heap.size (cs.set 1 u) t ∧ Below w.heap.size w (W.setCell ⟨w.heap.size, 1, none⟩ u) :=
  ⟨h.set 1 _, b.trans (keep_below (keep_setCell W _ 1 _) (fun j hj e => by omega) b.size)⟩
theorem np_ext {A B : ByteArray} (hn : ∀ R, B.data.toList ≠ A.data.toList ++ R) : ((B.extract 0 A.size).toList == A.toList) = false := beq_eq_false_iff_ne.2 fun e => by
  rw [ByteArray.toList_eq, ByteArray.toList_eq, ByteArray.data_extract, Array.toList_extract, List.extract_eq_take_drop, List.drop_zero] at e
  refine hn (B.data.toList.drop (A.size - 0)) ?_
  rw [← e, List.take_append_drop]
theorem dg_tok {c : Cm} {t : ByteArray} (h : cmOk c = true) (h2 : cmOk { c with tk := t } = true) : dgT c = dgT { c with tk := t } := by
  unfold dgT
  rw [if_pos h, if_pos h2]
  rfl
theorem same16 (p1 k1 p2 k2 : Value) (c d : Cm) (w : World) (h1 : PcI w p1 c.ps) (g1 : PkI w k1 c.ks) (h2 : PcI w p2 d.ps) (g2 : PkI w k2 d.ks) (hlp : c.ps.length ≤ 8796093022208) (hlk : c.ks.length ≤ 8796093022208) (hc : cmOk c = true) (hd : cmOk d = true) : Calls Tryz.prog 17 #[cmV p1 k1 c, cmV p2 k2 d] w fun e w' => e = .returned (.bool (decide (cmT c = cmT d))) ∧ Below w.heap.size w w' := by
  by_cases h : cmT c = cmT d
  · obtain rfl : c = d := cmT_pre hc hd [] (by rw [h]; simp)
    rw [decide_eq_true h]
    exact rsm_true p1 k1 p2 k2 c c w h1 g1 h2 g2 hlp hlk rfl rfl rfl rfl rfl rfl rfl rfl rfl rfl rfl
  · rw [decide_eq_false h]
    exact rsm_ne p1 k1 p2 k2 c d w h1 g1 h2 g2 hlp hlk (fun e => h (by rw [e]))
set_option maxRecDepth 100000 in
set_option maxHeartbeats 4000000 in
theorem cmdApart_walk (pv kv : Value) (c : Cm) (pu ku : Value) (d : Cm) (t : ByteArray) (w : World) (hp : PcI w pv c.ps) (hk : PkI w kv c.ks) (hz : ibulk.SzMb c) (hp2 : PcI w pu d.ps) (hk2 : PkI w ku d.ks) (hz2 : ibulk.SzMb d) (hs : t.size ≤ reachBytes) (hm : MaxL w) : Calls Tryz.prog 6 #[cmV pv kv c, cmV pu ku d, .string t] w fun e w' => e = .returned (.bool true) ∧ Below w.heap.size w w' := by
  obtain ⟨pa, pc, rfl, -⟩ := hp.form
  obtain ⟨ka, kc, rfl, -⟩ := hk.form
  obtain ⟨qa, qc, rfl, -⟩ := hp2.form
  obtain ⟨la, lc, rfl, -⟩ := hk2.form
  have hkl : c.ks.length ≤ 8796093022208 := by have := hz.kl; omega
  have hpl : c.ps.length ≤ 8796093022208 := by have := hz.pl; omega
  have hkl2 : d.ks.length ≤ 8796093022208 := by have := hz2.kl; omega
  have EC : Hid (∀ W, Below w.heap.size w W → Calls Tryz.prog 7 #[cmV (.slice pa c.ps.length pc) (.slice ka c.ks.length kc) c] W fun e w' => e = .returned (.tuple #[.string (cmT c), .int .i64 (ckN c)]) ∧ Below W.heap.size W w') := fun W hW => cencode_any _ _ c W (hp.next hW) (hk.next hW) hkl (hm.keep (hW.keep _))
  have ED : Hid (∀ W, Below w.heap.size w W → Calls Tryz.prog 7 #[cmV (.slice qa d.ps.length qc) (.slice la d.ks.length lc) d] W fun e w' => e = .returned (.tuple #[.string (cmT d), .int .i64 (ckN d)]) ∧ Below W.heap.size W w') := fun W hW => cencode_any _ _ d W (hp2.next hW) (hk2.next hW) hkl2 (hm.keep (hW.keep _))
  have GC : Hid (∀ W, Below w.heap.size w W → Calls Tryz.prog 10 #[cmV (.slice pa c.ps.length pc) (.slice ka c.ks.length kc) c] W fun e w' => e = .returned (.tuple #[.string (dgT c), .int .i64 (ckN c)]) ∧ Below W.heap.size W w') := fun W hW => cdigest_any _ _ c W (hp.next hW) (hk.next hW) hkl (hm.keep (hW.keep _))
  have GE : Hid (∀ W, Below w.heap.size w W → Calls Tryz.prog 10 #[cmV (.slice pa c.ps.length pc) (.slice ka c.ks.length kc) { c with tk := t }] W fun e w' => e = .returned (.tuple #[.string (dgT { c with tk := t }), .int .i64 (ckN { c with tk := t })]) ∧ Below W.heap.size W w') := fun W hW => cdigest_any _ _ { c with tk := t } W (hp.next hW) (hk.next hW) hkl (hm.keep (hW.keep _))
  have RF : Hid (∀ W, Below w.heap.size w W → Calls Tryz.prog 9 #[cmV (.slice pa c.ps.length pc) (.slice ka c.ks.length kc) c] W fun e w' => ∃ p2 k2, e = .returned (cmV p2 k2 c) ∧ PcI w' p2 c.ps ∧ PkI w' k2 c.ks ∧ Below W.heap.size W w') := fun W hW => (cref_any _ _ c W (hp.next hW) (hk.next hW) hz.pl hz.kl).mono fun e w' ⟨p2, k2, he, ho, hok, hb⟩ => ⟨p2, k2, he, ho.pcs, hok.pks, hb⟩
  have RD : Hid (∀ W, Below w.heap.size w W → Calls Tryz.prog 9 #[cmV (.slice qa d.ps.length qc) (.slice la d.ks.length lc) d] W fun e w' => ∃ p2 k2, e = .returned (cmV p2 k2 d) ∧ PcI w' p2 d.ps ∧ PkI w' k2 d.ks ∧ Below W.heap.size W w') := fun W hW => (cref_any _ _ d W (hp2.next hW) (hk2.next hW) hz2.pl hz2.kl).mono fun e w' ⟨p2, k2, he, ho, hok, hb⟩ => ⟨p2, k2, he, ho.pcs, hok.pks, hb⟩
  have SM : Hid (cmOk c = true → cmOk d = true → ∀ p1 k1 p2 k2 W, PcI W p1 c.ps → PkI W k1 c.ks → PcI W p2 d.ps → PkI W k2 d.ks → Calls Tryz.prog 17 #[cmV p1 k1 c, cmV p2 k2 d] W fun e w' => e = .returned (.bool (decide (cmT c = cmT d))) ∧ Below W.heap.size W w') := fun hc hd p1 k1 p2 k2 W h1 h2 h3 h4 => same16 p1 k1 p2 k2 c d W h1 h2 h3 h4 hpl hkl hc hd
  have CK : Hid (∀ p1 k1 W, PcI W p1 c.ps → PkI W k1 c.ks → Calls Tryz.prog 14 #[cmV p1 k1 c] W fun e w' => e = .returned (.int .i64 (ckN c)) ∧ Below W.heap.size W w') := fun p1 k1 W h1 h2 => rcheck16_any p1 k1 c W h1 h2 hz
  have AW : Hid (∀ W, Below w.heap.size w W → Calls Tryz.prog 12 #[] W fun e w' => e = .returned (.bool true) ∧ Below W.heap.size W w') := fun W hW => awake16 W (hm.keep (hW.keep _))
  have HE : Hid (ckN c = if cmOk c = true then 0 else 1) := rfl
  have HF : Hid (ckN d = if cmOk d = true then 0 else 1) := rfl
  have HG : Hid (ckN { c with tk := t } = if cmOk { c with tk := t } = true then 0 else 1) := rfl
  have HX : Hid (cmOk c = true → cmOk { c with tk := t } = true → dgT c = dgT { c with tk := t }) := fun h h2 => dg_tok h h2
  have NP : Hid (cmOk c = true → cmOk d = true → ¬ cmT c = cmT d → ∀ R, (cmT d).data.toList ≠ (cmT c).data.toList ++ R) := fun h h2 hn R e => hn (by rw [cmT_pre h h2 R e])
  clear hs hm hz hz2 hkl hpl hkl2 hp hk hp2 hk2
  unfold cmV at *
  generalize cmT c = TT at *
  generalize ckN c = TE at *
  generalize dgT c = DG at *
  generalize cmT d = UU at *
  generalize ckN d = UE at *
  generalize dgT { c with tk := t } = DH at *
  generalize ckN { c with tk := t } = TF at *
  generalize cmOk { c with tk := t } = ok3 at *
  generalize cmOk c = ok at *
  generalize cmOk d = ok2 at *
  obtain ⟨kd, tk, bk, ky, id, n, sm, ps, ks⟩ := c
  obtain ⟨kd2, tk2, bk2, ky2, id2, n2, sm2, ps2, ks2⟩ := d
  simp only at *
  generalize hpn : ps.length = pn at *
  generalize hkn : ks.length = kn at *
  generalize hqn : ps2.length = qn at *
  generalize hln : ks2.length = ln at *
  clear hpn hkn hqn hln
  have BA := hid (below_al (below_al (Below.refl w.heap.size w) (.cells #[.int .i64 kd, .string tk, .string bk, .string ky, .int .i64 id, .int .i64 n, .string sm, .slice pa pn pc, .slice ka kn kc] 25)) (.cells #[.int .i64 kd2, .string tk2, .string bk2, .string ky2, .int .i64 id2, .int .i64 n2, .string sm2, .slice qa qn qc, .slice la ln lc] 25))
  have RC : Hid (∀ W, Below ((w.alloc (.cells #[.int .i64 kd, .string tk, .string bk, .string ky, .int .i64 id, .int .i64 n, .string sm, .slice pa pn pc, .slice ka kn kc] 25)).alloc (.cells #[.int .i64 kd2, .string tk2, .string bk2, .string ky2, .int .i64 id2, .int .i64 n2, .string sm2, .slice qa qn qc, .slice la ln lc] 25)).heap.size ((w.alloc (.cells #[.int .i64 kd, .string tk, .string bk, .string ky, .int .i64 id, .int .i64 n, .string sm, .slice pa pn pc, .slice ka kn kc] 25)).alloc (.cells #[.int .i64 kd2, .string tk2, .string bk2, .string ky2, .int .i64 id2, .int .i64 n2, .string sm2, .slice qa qn qc, .slice la ln lc] 25)) W → RowIs W w.heap.size [.int .i64 kd, .string tk, .string bk, .string ky, .int .i64 id, .int .i64 n, .string sm, .slice pa pn pc, .slice ka kn kc] 25) := fun W hW => (row_old (srow w [.int .i64 kd, .string tk, .string bk, .string ky, .int .i64 id, .int .i64 n, .string sm, .slice pa pn pc, .slice ka kn kc] 25) (.cells #[.int .i64 kd2, .string tk2, .string bk2, .string ky2, .int .i64 id2, .int .i64 n2, .string sm2, .slice qa qn qc, .slice la ln lc] 25)).keep (hW.keep (fun _ => False)) (fun h => h)
  have ZC : Hid (∀ W, Below ((w.alloc (.cells #[.int .i64 kd, .string tk, .string bk, .string ky, .int .i64 id, .int .i64 n, .string sm, .slice pa pn pc, .slice ka kn kc] 25)).alloc (.cells #[.int .i64 kd2, .string tk2, .string bk2, .string ky2, .int .i64 id2, .int .i64 n2, .string sm2, .slice qa qn qc, .slice la ln lc] 25)).heap.size ((w.alloc (.cells #[.int .i64 kd, .string tk, .string bk, .string ky, .int .i64 id, .int .i64 n, .string sm, .slice pa pn pc, .slice ka kn kc] 25)).alloc (.cells #[.int .i64 kd2, .string tk2, .string bk2, .string ky2, .int .i64 id2, .int .i64 n2, .string sm2, .slice qa qn qc, .slice la ln lc] 25)) W → (fun w' => w'.cell? ⟨w.heap.size, 0, none⟩ = some (.int .i64 kd) ∧ w'.cell? ⟨w.heap.size, 1, none⟩ = some (.string tk) ∧ w'.cell? ⟨w.heap.size, 2, none⟩ = some (.string bk) ∧ w'.cell? ⟨w.heap.size, 3, none⟩ = some (.string ky) ∧ w'.cell? ⟨w.heap.size, 4, none⟩ = some (.int .i64 id) ∧ w'.cell? ⟨w.heap.size, 5, none⟩ = some (.int .i64 n) ∧ w'.cell? ⟨w.heap.size, 6, none⟩ = some (.string sm) ∧ w'.cell? ⟨w.heap.size, 7, none⟩ = some (.slice pa pn pc) ∧ w'.cell? ⟨w.heap.size, 8, none⟩ = some (.slice ka kn kc) ∧ w'.cell? ⟨w.heap.size + 1, 0, none⟩ = some (.int .i64 kd2) ∧ w'.cell? ⟨w.heap.size + 1, 1, none⟩ = some (.string tk2) ∧ w'.cell? ⟨w.heap.size + 1, 2, none⟩ = some (.string bk2) ∧ w'.cell? ⟨w.heap.size + 1, 3, none⟩ = some (.string ky2) ∧ w'.cell? ⟨w.heap.size + 1, 4, none⟩ = some (.int .i64 id2) ∧ w'.cell? ⟨w.heap.size + 1, 5, none⟩ = some (.int .i64 n2) ∧ w'.cell? ⟨w.heap.size + 1, 6, none⟩ = some (.string sm2) ∧ w'.cell? ⟨w.heap.size + 1, 7, none⟩ = some (.slice qa qn qc) ∧ w'.cell? ⟨w.heap.size + 1, 8, none⟩ = some (.slice la ln lc)) W) := fun W hW => by
    have q := RC.out W hW
    have r := srow (w.alloc (.cells #[.int .i64 kd, .string tk, .string bk, .string ky, .int .i64 id, .int .i64 n, .string sm, .slice pa pn pc, .slice ka kn kc] 25)) [.int .i64 kd2, .string tk2, .string bk2, .string ky2, .int .i64 id2, .int .i64 n2, .string sm2, .slice qa qn qc, .slice la ln lc] 25
    rw [show (w.alloc (.cells #[.int .i64 kd, .string tk, .string bk, .string ky, .int .i64 id, .int .i64 n, .string sm, .slice pa pn pc, .slice ka kn kc] 25)).heap.size = w.heap.size + 1 from by simp] at r
    replace r := r.keep (hW.keep (fun _ => False)) (fun h => h)
    exact ⟨q.cellAt rfl, q.cellAt rfl, q.cellAt rfl, q.cellAt rfl, q.cellAt rfl, q.cellAt rfl, q.cellAt rfl, q.cellAt rfl, q.cellAt rfl, r.cellAt rfl, r.cellAt rfl, r.cellAt rfl, r.cellAt rfl, r.cellAt rfl, r.cellAt rfl, r.cellAt rfl, r.cellAt rfl, r.cellAt rfl⟩
  have B0 := hid (Below.refl ((w.alloc (.cells #[.int .i64 kd, .string tk, .string bk, .string ky, .int .i64 id, .int .i64 n, .string sm, .slice pa pn pc, .slice ka kn kc] 25)).alloc (.cells #[.int .i64 kd2, .string tk2, .string bk2, .string ky2, .int .i64 id2, .int .i64 n2, .string sm2, .slice qa qn qc, .slice la ln lc] 25)).heap.size ((w.alloc (.cells #[.int .i64 kd, .string tk, .string bk, .string ky, .int .i64 id, .int .i64 n, .string sm, .slice pa pn pc, .slice ka kn kc] 25)).alloc (.cells #[.int .i64 kd2, .string tk2, .string bk2, .string ky2, .int .i64 id2, .int .i64 n2, .string sm2, .slice qa qn qc, .slice la ln lc] 25)))
  obtain ⟨y0, y1, y2, y3, y4, y5, y6, y7, y8, z0, z1, z2, z3, z4, z5, z6, z7, z8⟩ := ZC.out _ B0.out
  go_enter Tryz.func6, Tryz.ntmps6
  go_wp2_with fail
  refine (EC.out _ (below_on BA.out B0.out)).mono ?_
  rintro e w1 ⟨rfl, b1⟩
  have B1 := hid b1
  clear EC b1 B0 y0 y1 y2 y3 y4 y5 y6 y7 y8 z0 z1 z2 z3 z4 z5 z6 z7 z8
  generalize ((w.alloc (.cells #[.int .i64 kd, .string tk, .string bk, .string ky, .int .i64 id, .int .i64 n, .string sm, .slice pa pn pc, .slice ka kn kc] 25)).alloc (.cells #[.int .i64 kd2, .string tk2, .string bk2, .string ky2, .int .i64 id2, .int .i64 n2, .string sm2, .slice qa qn qc, .slice la ln lc] 25)) = V at *
  obtain ⟨y0, y1, y2, y3, y4, y5, y6, y7, y8, z0, z1, z2, z3, z4, z5, z6, z7, z8⟩ := ZC.out _ B1.out
  go_wp2_with fail
  refine (ED.out _ (below_on BA.out B1.out)).mono ?_
  rintro e w2 ⟨rfl, b2⟩
  have B2 := hid (below_on B1.out b2)
  clear ED b2 B1 y0 y1 y2 y3 y4 y5 y6 y7 y8 z0 z1 z2 z3 z4 z5 z6 z7 z8
  cases ok
  · obtain rfl : TE = 1 := HE.out
    clear HE HF HG HX NP SM RD GE RC
    obtain ⟨y0, y1, y2, y3, y4, y5, y6, y7, y8, -, -, -, -, -, -, -, -, -⟩ := ZC.out _ B2.out
    go_wp2_with fail
    refine (GC.out _ (below_on BA.out B2.out)).mono ?_
    rintro e w5 ⟨rfl, b5⟩
    have B5 := hid (below_on B2.out b5)
    clear GC b5 B2
    clear y0 y1 y2 y3 y4 y5 y6 y7 y8
    obtain ⟨y0, y1, y2, y3, y4, y5, y6, y7, y8, -, -, -, -, -, -, -, -, -⟩ := ZC.out _ B5.out
    go_wp2_with fail
    refine (AW.out _ (below_on BA.out B5.out)).mono ?_
    rintro e w6 ⟨rfl, b6⟩
    have B6 := hid (below_on B5.out b6)
    clear AW b6 B5
    clear y0 y1 y2 y3 y4 y5 y6 y7 y8
    obtain ⟨y0, y1, y2, y3, y4, y5, y6, y7, y8, -, -, -, -, -, -, -, -, -⟩ := ZC.out _ B6.out
    go_wp2_with fail
    refine (RF.out _ (below_on BA.out B6.out)).mono ?_
    rintro e w7 ⟨p7, k7, rfl, i7, j7, b7⟩
    have B7 := hid (below_on B6.out b7)
    have I7 := hid i7
    have J7 := hid j7
    clear RF b7 B6 i7 j7
    clear y0 y1 y2 y3 y4 y5 y6 y7 y8
    go_wp2_with fail
    refine (CK.out _ _ _ I7.out J7.out).mono ?_
    rintro e w8 ⟨rfl, b8⟩
    have B8 := hid (below_on B7.out b8)
    clear CK I7 J7 b8 B7
    go_wp2
    go_ret
    exact ⟨rfl, below_on BA.out B8.out⟩
  · obtain rfl : TE = 0 := HE.out
    clear HE
    cases ok2
    · obtain rfl : UE = 1 := HF.out
      clear HF NP SM RD
      obtain ⟨y0, y1, y2, y3, y4, y5, y6, y7, y8, -, -, -, -, -, -, -, -, -⟩ := ZC.out _ B2.out
      go_wp2_with fail
      refine (GC.out _ (below_on BA.out B2.out)).mono ?_
      rintro e w5 ⟨rfl, b5⟩
      have B5 := hid (below_on B2.out b5)
      clear GC b5 B2
      clear y0 y1 y2 y3 y4 y5 y6 y7 y8
      by_cases h10 : kd = 10
      · have hkd : (kd == 10) = true := by simp [h10]
        clear h10 GE HG HX RC
        obtain ⟨y0, y1, y2, y3, y4, y5, y6, y7, y8, -, -, -, -, -, -, -, -, -⟩ := ZC.out _ B5.out
        go_wp2_with fail
        refine (AW.out _ (below_on BA.out B5.out)).mono ?_
        rintro e w6 ⟨rfl, b6⟩
        have B6 := hid (below_on B5.out b6)
        clear AW b6 B5
        clear y0 y1 y2 y3 y4 y5 y6 y7 y8
        obtain ⟨y0, y1, y2, y3, y4, y5, y6, y7, y8, -, -, -, -, -, -, -, -, -⟩ := ZC.out _ B6.out
        go_wp2_with fail
        refine (RF.out _ (below_on BA.out B6.out)).mono ?_
        rintro e w7 ⟨p7, k7, rfl, i7, j7, b7⟩
        have B7 := hid (below_on B6.out b7)
        have I7 := hid i7
        have J7 := hid j7
        clear RF b7 B6 i7 j7
        clear y0 y1 y2 y3 y4 y5 y6 y7 y8
        go_wp2_with fail
        refine (CK.out _ _ _ I7.out J7.out).mono ?_
        rintro e w8 ⟨rfl, b8⟩
        have B8 := hid (below_on B7.out b8)
        clear CK I7 J7 b8 B7
        go_wp2
        go_ret
        exact ⟨rfl, below_on BA.out B8.out⟩
      · have hkd : (kd == 10) = false := by simp [h10]
        clear h10
        obtain ⟨y0, y1, y2, y3, y4, y5, y6, y7, y8, -, -, -, -, -, -, -, -, -⟩ := ZC.out _ B5.out
        obtain ⟨r5, l5⟩ := ap_fin (.string t) (RC.out _ B5.out) (below_on BA.out B5.out)
        have RY := hid r5
        have BY := hid l5
        have f1 : w5.frozen? ⟨w.heap.size, 1, none⟩ = false := (RC.out _ B5.out).frozen
        clear r5 l5 RF CK
        go_upto_region 10 with fail
        clear y0 y1 y2 y3 y4 y5 y6 y7 y8 f1
        generalize w5.setCell ⟨w.heap.size, 1, none⟩ (.string t) = U at *
        have R5 : RowIs U w.heap.size [.int .i64 kd, .string t, .string bk, .string ky, .int .i64 id, .int .i64 n, .string sm, .slice pa pn pc, .slice ka kn kc] 25 := RY.out
        have y0 : U.cell? ⟨w.heap.size, 0, none⟩ = some (.int .i64 kd) := R5.cellAt rfl
        have y1 : U.cell? ⟨w.heap.size, 1, none⟩ = some (.string t) := R5.cellAt rfl
        have y2 : U.cell? ⟨w.heap.size, 2, none⟩ = some (.string bk) := R5.cellAt rfl
        have y3 : U.cell? ⟨w.heap.size, 3, none⟩ = some (.string ky) := R5.cellAt rfl
        have y4 : U.cell? ⟨w.heap.size, 4, none⟩ = some (.int .i64 id) := R5.cellAt rfl
        have y5 : U.cell? ⟨w.heap.size, 5, none⟩ = some (.int .i64 n) := R5.cellAt rfl
        have y6 : U.cell? ⟨w.heap.size, 6, none⟩ = some (.string sm) := R5.cellAt rfl
        have y7 : U.cell? ⟨w.heap.size, 7, none⟩ = some (.slice pa pn pc) := R5.cellAt rfl
        have y8 : U.cell? ⟨w.heap.size, 8, none⟩ = some (.slice ka kn kc) := R5.cellAt rfl
        clear R5 RY ZC RC BA B5
        go_wp2_with fail
        refine (GE.out _ BY.out).mono ?_
        rintro e w6 ⟨rfl, b6⟩
        have B6 := hid (below_on BY.out b6)
        clear GE b6 BY
        clear y0 y1 y2 y3 y4 y5 y6 y7 y8
        cases ok3
        · obtain rfl : TF = 1 := HG.out
          clear HG HX
          go_wp2_with fail
          refine (AW.out _ B6.out).mono ?_
          rintro e w7 ⟨rfl, b7⟩
          have B7 := hid (below_on B6.out b7)
          clear AW b7 B6
          go_wp2
          go_ret
          exact ⟨rfl, B7.out⟩
        · obtain rfl : TF = 0 := HG.out
          obtain rfl : DG = DH := HX.out (by simp) (by simp)
          have qd : (DG.toList == DG.toList) = true := by simp
          clear HG HX
          go_wp2_with fail
          refine (AW.out _ B6.out).mono ?_
          rintro e w7 ⟨rfl, b7⟩
          have B7 := hid (below_on B6.out b7)
          clear AW b7 B6
          go_wp2
          go_ret
          exact ⟨rfl, B7.out⟩
    · obtain rfl : UE = 0 := HF.out
      by_cases hcd : TT = UU
      · have SM1 : Hid (∀ p1 k1 p2 k2 W, PcI W p1 ps → PkI W k1 ks → PcI W p2 ps2 → PkI W k2 ks2 → Calls Tryz.prog 17 #[.agg #[.int .i64 kd, .string tk, .string bk, .string ky, .int .i64 id, .int .i64 n, .string sm, p1, k1], .agg #[.int .i64 kd2, .string tk2, .string bk2, .string ky2, .int .i64 id2, .int .i64 n2, .string sm2, p2, k2]] W fun e w' => e = .returned (.bool true) ∧ Below W.heap.size W w') := fun p1 k1 p2 k2 W h1 h2 h3 h4 => by have := SM.out rfl rfl p1 k1 p2 k2 W h1 h2 h3 h4; rwa [decide_eq_true hcd] at this
        clear SM NP HF
        subst hcd
        have q0 : (TT.toList == TT.toList) = true := by simp
        have q1 : (TT.toList != TT.toList) = false := by simp
        go_upto_region 4 with fail
        have B3 := hid B2.out.drew
        refine wp_region_held_drew (S := (fun w' => w'.cell? ⟨w.heap.size, 0, none⟩ = some (.int .i64 kd) ∧ w'.cell? ⟨w.heap.size, 1, none⟩ = some (.string tk) ∧ w'.cell? ⟨w.heap.size, 2, none⟩ = some (.string bk) ∧ w'.cell? ⟨w.heap.size, 3, none⟩ = some (.string ky) ∧ w'.cell? ⟨w.heap.size, 4, none⟩ = some (.int .i64 id) ∧ w'.cell? ⟨w.heap.size, 5, none⟩ = some (.int .i64 n) ∧ w'.cell? ⟨w.heap.size, 6, none⟩ = some (.string sm) ∧ w'.cell? ⟨w.heap.size, 7, none⟩ = some (.slice pa pn pc) ∧ w'.cell? ⟨w.heap.size, 8, none⟩ = some (.slice ka kn kc) ∧ w'.cell? ⟨w.heap.size + 1, 0, none⟩ = some (.int .i64 kd2) ∧ w'.cell? ⟨w.heap.size + 1, 1, none⟩ = some (.string tk2) ∧ w'.cell? ⟨w.heap.size + 1, 2, none⟩ = some (.string bk2) ∧ w'.cell? ⟨w.heap.size + 1, 3, none⟩ = some (.string ky2) ∧ w'.cell? ⟨w.heap.size + 1, 4, none⟩ = some (.int .i64 id2) ∧ w'.cell? ⟨w.heap.size + 1, 5, none⟩ = some (.int .i64 n2) ∧ w'.cell? ⟨w.heap.size + 1, 6, none⟩ = some (.string sm2) ∧ w'.cell? ⟨w.heap.size + 1, 7, none⟩ = some (.slice qa qn qc) ∧ w'.cell? ⟨w.heap.size + 1, 8, none⟩ = some (.slice la ln lc))) (by kernel_rfl) (ZC.out _ B3.out) (fun hHeld => ?_)
        refine wpAnyH_take (i := 0) (v := ?vv1) rfl (by kernel_rfl) (by kernel_rfl) (by kernel_rfl) (fun _ _ _ h => h) (Or.inl ⟨by rfl, ?hy1⟩) (by assumption) ?rest1
        case hy1 => (intro w hSw; (try dsimp only at hSw); go_simp; first | done | with_reducible rfl)
        try simp only [Act.put, List.getElem_toArray, List.getElem_cons_succ, List.getElem_cons_zero, List.setIfInBounds_toArray, List.set_cons_zero, List.set_cons_succ]
        refine wpAnyH_take (i := 1) (v := ?vv2) rfl (by kernel_rfl) (by kernel_rfl) (by kernel_rfl) (fun _ _ _ h => h) (Or.inl ⟨by rfl, ?hy2⟩) (by assumption) ?rest2
        case hy2 => (intro w hSw; (try dsimp only at hSw); go_simp; first | done | with_reducible rfl)
        try simp only [Act.put, List.getElem_toArray, List.getElem_cons_succ, List.getElem_cons_zero, List.setIfInBounds_toArray, List.set_cons_zero, List.set_cons_succ]
        refine wpAnyH_take (i := 2) (v := ?vv3) rfl (by kernel_rfl) (by kernel_rfl) (by kernel_rfl) (fun _ _ _ h => h) (Or.inl ⟨by rfl, ?hy3⟩) (by assumption) ?rest3
        case hy3 => (intro w hSw; (try dsimp only at hSw); go_simp; first | done | with_reducible rfl)
        try simp only [Act.put, List.getElem_toArray, List.getElem_cons_succ, List.getElem_cons_zero, List.setIfInBounds_toArray, List.set_cons_zero, List.set_cons_succ]
        refine wpAnyH_take (i := 3) (v := ?vv4) rfl (by kernel_rfl) (by kernel_rfl) (by kernel_rfl) (fun _ _ _ h => h) (Or.inl ⟨by rfl, ?hy4⟩) (by assumption) ?rest4
        case hy4 => (intro w hSw; (try dsimp only at hSw); go_simp; first | done | with_reducible rfl)
        try simp only [Act.put, List.getElem_toArray, List.getElem_cons_succ, List.getElem_cons_zero, List.setIfInBounds_toArray, List.set_cons_zero, List.set_cons_succ]
        refine wpAnyH_take (i := 5) (v := ?vv5) rfl (by kernel_rfl) (by kernel_rfl) (by kernel_rfl) (fun _ _ _ h => h) (Or.inl ⟨by rfl, ?hy5⟩) (by assumption) ?rest5
        case hy5 => (intro w hSw; (try dsimp only at hSw); go_simp; first | done | with_reducible rfl)
        try simp only [Act.put, List.getElem_toArray, List.getElem_cons_succ, List.getElem_cons_zero, List.setIfInBounds_toArray, List.set_cons_zero, List.set_cons_succ]
        refine wpAnyH_ready (rs := [4]) (by kernel_rfl) (by simp) ?_
        refine AllReadyH.cons rfl (fun K hK => ?_) AllReadyH.nil
        go_simp
        refine (RF.out _ (below_on BA.out B3.out)).mono ?_
        rintro e v1 ⟨p4, k4, rfl, i4, j4, b4⟩
        have D1 := hid (below_on B3.out b4)
        have I4 := hid i4
        have J4 := hid j4
        clear i4 j4 b4 hHeld B2 B3
        go_wp2_with fail
        refine hK.out _ _ (ZC.out _ D1.out) (fun hHeld => ?_)
        clear hK K
        try simp only [Act.put, List.getElem_toArray, List.getElem_cons_succ, List.getElem_cons_zero, List.setIfInBounds_toArray, List.set_cons_zero, List.set_cons_succ]
        refine wpAnyH_ready (rs := [6]) (by kernel_rfl) (by simp) ?_
        refine AllReadyH.cons rfl (fun K hK => ?_) AllReadyH.nil
        go_simp
        refine (RD.out _ (below_on BA.out D1.out)).mono ?_
        rintro e v2 ⟨p5, k5, rfl, i5, j5, b5⟩
        have D2 := hid (below_on D1.out b5)
        have I5 := hid i5
        have J5 := hid j5
        replace I4 := hid (I4.out.next b5)
        replace J4 := hid (J4.out.next b5)
        clear i5 j5 b5 hHeld D1
        go_wp2_with fail
        refine hK.out _ _ (ZC.out _ D2.out) (fun hHeld => ?_)
        clear hK K
        try simp only [Act.put, List.getElem_toArray, List.getElem_cons_succ, List.getElem_cons_zero, List.setIfInBounds_toArray, List.set_cons_zero, List.set_cons_succ]
        refine wpAnyH_ready (rs := [7]) (by kernel_rfl) (by simp) ?_
        refine AllReadyH.cons rfl (fun K hK => ?_) AllReadyH.nil
        go_simp
        refine (SM1.out _ _ _ _ _ I4.out J4.out I5.out J5.out).mono ?_
        rintro e v3 ⟨rfl, b6⟩
        have D3 := hid (below_on D2.out b6)
        clear b6 hHeld D2 I4 J4 I5 J5 SM1 RD
        go_wp2_with fail
        refine hK.out _ _ (ZC.out _ D3.out) (fun hHeld => ?_)
        clear hK K
        try simp only [Act.put, List.getElem_toArray, List.getElem_cons_succ, List.getElem_cons_zero, List.setIfInBounds_toArray, List.set_cons_zero, List.set_cons_succ]
        refine wpAnyH_take (i := 8) (v := ?vv6) rfl (by kernel_rfl) (by kernel_rfl) (by kernel_rfl) (fun _ _ _ h => h) (Or.inl ⟨by rfl, ?hy6⟩) (by assumption) ?rest6
        case hy6 => (intro w hSw; (try dsimp only at hSw); go_simp; first | done | with_reducible rfl)
        try simp only [Act.put, List.getElem_toArray, List.getElem_cons_succ, List.getElem_cons_zero, List.setIfInBounds_toArray, List.set_cons_zero, List.set_cons_succ]
        refine wpAnyH_take (i := 9) (v := ?vv7) rfl (by kernel_rfl) (by kernel_rfl) (by kernel_rfl) (fun _ _ _ h => h) (Or.inl ⟨by rfl, ?hy7⟩) (by assumption) ?rest7
        case hy7 => (intro w hSw; (try dsimp only at hSw); go_simp; first | done | with_reducible rfl)
        try simp only [Act.put, List.getElem_toArray, List.getElem_cons_succ, List.getElem_cons_zero, List.setIfInBounds_toArray, List.set_cons_zero, List.set_cons_succ]
        refine wpAnyH_take (i := 10) (v := ?vv8) rfl (by kernel_rfl) (by kernel_rfl) (by kernel_rfl) (fun _ _ _ h => h) (Or.inl ⟨by rfl, ?hy8⟩) (by assumption) ?rest8
        case hy8 => (intro w hSw; (try dsimp only at hSw); go_simp; first | done | with_reducible rfl)
        try simp only [Act.put, List.getElem_toArray, List.getElem_cons_succ, List.getElem_cons_zero, List.setIfInBounds_toArray, List.set_cons_zero, List.set_cons_succ]
        refine wpAnyH_take (i := 11) (v := ?vv9) rfl (by kernel_rfl) (by kernel_rfl) (by kernel_rfl) (fun _ _ _ h => h) (Or.inl ⟨by rfl, ?hy9⟩) (by assumption) ?rest9
        case hy9 => (intro w hSw; (try dsimp only at hSw); go_simp; first | done | with_reducible rfl)
        try simp only [Act.put, List.getElem_toArray, List.getElem_cons_succ, List.getElem_cons_zero, List.setIfInBounds_toArray, List.set_cons_zero, List.set_cons_succ]
        refine wpAnyH_take (i := 12) (v := ?vv10) rfl (by kernel_rfl) (by kernel_rfl) (by kernel_rfl) (fun _ _ _ h => h) (Or.inl ⟨by rfl, ?hy10⟩) (by assumption) ?rest10
        case hy10 => (intro w hSw; (try dsimp only at hSw); go_simp; first | done | with_reducible rfl)
        try simp only [Act.put, List.getElem_toArray, List.getElem_cons_succ, List.getElem_cons_zero, List.setIfInBounds_toArray, List.set_cons_zero, List.set_cons_succ]
        refine wpAnyH_take (i := 13) (v := ?vv11) rfl (by kernel_rfl) (by kernel_rfl) (by kernel_rfl) (fun _ _ _ h => h) (Or.inl ⟨by rfl, ?hy11⟩) (by assumption) ?rest11
        case hy11 => (intro w hSw; (try dsimp only at hSw); go_simp; first | done | with_reducible rfl)
        try simp only [Act.put, List.getElem_toArray, List.getElem_cons_succ, List.getElem_cons_zero, List.setIfInBounds_toArray, List.set_cons_zero, List.set_cons_succ]
        refine wpAnyH_take (i := 14) (v := undef) rfl (by kernel_rfl) (by kernel_rfl) (by kernel_rfl) (fun _ _ _ h => h) (Or.inr ⟨by rfl, rfl⟩) (by assumption) ?_
        try simp only [Act.put, List.getElem_toArray, List.getElem_cons_succ, List.getElem_cons_zero, List.setIfInBounds_toArray, List.set_cons_zero, List.set_cons_succ]
        refine wpAnyH_take (i := 15) (v := undef) rfl (by kernel_rfl) (by kernel_rfl) (by kernel_rfl) (fun _ _ _ h => h) (Or.inr ⟨by rfl, rfl⟩) (by assumption) ?_
        try simp only [Act.put, List.getElem_toArray, List.getElem_cons_succ, List.getElem_cons_zero, List.setIfInBounds_toArray, List.set_cons_zero, List.set_cons_succ]
        refine wpAnyH_take (i := 16) (v := undef) rfl (by kernel_rfl) (by kernel_rfl) (by kernel_rfl) (fun _ _ _ h => h) (Or.inr ⟨by rfl, rfl⟩) (by assumption) ?_
        try simp only [Act.put, List.getElem_toArray, List.getElem_cons_succ, List.getElem_cons_zero, List.setIfInBounds_toArray, List.set_cons_zero, List.set_cons_succ]
        refine wpAnyH_take (i := 17) (v := undef) rfl (by kernel_rfl) (by kernel_rfl) (by kernel_rfl) (fun _ _ _ h => h) (Or.inr ⟨by rfl, rfl⟩) (by assumption) ?_
        try simp only [Act.put, List.getElem_toArray, List.getElem_cons_succ, List.getElem_cons_zero, List.setIfInBounds_toArray, List.set_cons_zero, List.set_cons_succ]
        refine wpAnyH_take (i := 18) (v := undef) rfl (by kernel_rfl) (by kernel_rfl) (by kernel_rfl) (fun _ _ _ h => h) (Or.inr ⟨by rfl, rfl⟩) (by assumption) ?_
        try simp only [Act.put, List.getElem_toArray, List.getElem_cons_succ, List.getElem_cons_zero, List.setIfInBounds_toArray, List.set_cons_zero, List.set_cons_succ]
        refine wpAnyH_take (i := 19) (v := ?vv12) rfl (by kernel_rfl) (by kernel_rfl) (by kernel_rfl) (fun _ _ _ h => h) (Or.inl ⟨by rfl, ?hy12⟩) (by assumption) ?rest12
        case hy12 => (intro w hSw; (try dsimp only at hSw); go_simp; first | done | with_reducible rfl)
        try simp only [Act.put, List.getElem_toArray, List.getElem_cons_succ, List.getElem_cons_zero, List.setIfInBounds_toArray, List.set_cons_zero, List.set_cons_succ]
        refine wpAnyH_take (i := 20) (v := ?vv13) rfl (by kernel_rfl) (by kernel_rfl) (by kernel_rfl) (fun _ _ _ h => h) (Or.inl ⟨by rfl, ?hy13⟩) (by assumption) ?rest13
        case hy13 => (intro w hSw; (try dsimp only at hSw); go_simp; first | done | with_reducible rfl)
        try simp only [Act.put, List.getElem_toArray, List.getElem_cons_succ, List.getElem_cons_zero, List.setIfInBounds_toArray, List.set_cons_zero, List.set_cons_succ]
        refine wpAnyH_take (i := 21) (v := undef) rfl (by kernel_rfl) (by kernel_rfl) (by kernel_rfl) (fun _ _ _ h => h) (Or.inr ⟨by rfl, rfl⟩) (by assumption) ?_
        try simp only [Act.put, List.getElem_toArray, List.getElem_cons_succ, List.getElem_cons_zero, List.setIfInBounds_toArray, List.set_cons_zero, List.set_cons_succ]
        refine wpAnyH_take (i := 22) (v := undef) rfl (by kernel_rfl) (by kernel_rfl) (by kernel_rfl) (fun _ _ _ h => h) (Or.inr ⟨by rfl, rfl⟩) (by assumption) ?_
        try simp only [Act.put, List.getElem_toArray, List.getElem_cons_succ, List.getElem_cons_zero, List.setIfInBounds_toArray, List.set_cons_zero, List.set_cons_succ]
        refine wpAnyH_take (i := 23) (v := undef) rfl (by kernel_rfl) (by kernel_rfl) (by kernel_rfl) (fun _ _ _ h => h) (Or.inr ⟨by rfl, rfl⟩) (by assumption) ?_
        try simp only [Act.put, List.getElem_toArray, List.getElem_cons_succ, List.getElem_cons_zero, List.setIfInBounds_toArray, List.set_cons_zero, List.set_cons_succ]
        refine wpAnyH_take (i := 24) (v := undef) rfl (by kernel_rfl) (by kernel_rfl) (by kernel_rfl) (fun _ _ _ h => h) (Or.inr ⟨by rfl, rfl⟩) (by assumption) ?_
        try simp only [Act.put, List.getElem_toArray, List.getElem_cons_succ, List.getElem_cons_zero, List.setIfInBounds_toArray, List.set_cons_zero, List.set_cons_succ]
        refine wpAnyH_take (i := 25) (v := undef) rfl (by kernel_rfl) (by kernel_rfl) (by kernel_rfl) (fun _ _ _ h => h) (Or.inr ⟨by rfl, rfl⟩) (by assumption) ?_
        try simp only [Act.put, List.getElem_toArray, List.getElem_cons_succ, List.getElem_cons_zero, List.setIfInBounds_toArray, List.set_cons_zero, List.set_cons_succ]
        refine wpAnyH_take (i := 26) (v := undef) rfl (by kernel_rfl) (by kernel_rfl) (by kernel_rfl) (fun _ _ _ h => h) (Or.inr ⟨by rfl, rfl⟩) (by assumption) ?_
        try simp only [Act.put, List.getElem_toArray, List.getElem_cons_succ, List.getElem_cons_zero, List.setIfInBounds_toArray, List.set_cons_zero, List.set_cons_succ]
        refine wpAnyH_take (i := 27) (v := ?vv14) rfl (by kernel_rfl) (by kernel_rfl) (by kernel_rfl) (fun _ _ _ h => h) (Or.inl ⟨by rfl, ?hy14⟩) (by assumption) ?rest14
        case hy14 => (intro w hSw; (try dsimp only at hSw); go_simp; first | done | with_reducible rfl)
        try simp only [Act.put, List.getElem_toArray, List.getElem_cons_succ, List.getElem_cons_zero, List.setIfInBounds_toArray, List.set_cons_zero, List.set_cons_succ]
        refine wpAnyH_take (i := 28) (v := ?vv15) rfl (by kernel_rfl) (by kernel_rfl) (by kernel_rfl) (fun _ _ _ h => h) (Or.inl ⟨by rfl, ?hy15⟩) (by assumption) ?rest15
        case hy15 => (intro w hSw; (try dsimp only at hSw); go_simp; first | done | with_reducible rfl)
        try simp only [Act.put, List.getElem_toArray, List.getElem_cons_succ, List.getElem_cons_zero, List.setIfInBounds_toArray, List.set_cons_zero, List.set_cons_succ]
        refine wpAnyH_done (by kernel_rfl) ?_ _
        obtain ⟨y0, y1, y2, y3, y4, y5, y6, y7, y8, -, -, -, -, -, -, -, -, -⟩ := ZC.out _ D3.out
        go_wp2_with fail
        refine (GC.out _ (below_on BA.out D3.out)).mono ?_
        rintro e w5 ⟨rfl, b5⟩
        have B5 := hid (below_on D3.out b5)
        clear GC b5 D3
        clear y0 y1 y2 y3 y4 y5 y6 y7 y8
        by_cases h10 : kd = 10
        · have hkd : (kd == 10) = true := by simp [h10]
          clear h10 GE HG HX RC
          obtain ⟨y0, y1, y2, y3, y4, y5, y6, y7, y8, -, -, -, -, -, -, -, -, -⟩ := ZC.out _ B5.out
          go_wp2_with fail
          refine (AW.out _ (below_on BA.out B5.out)).mono ?_
          rintro e w6 ⟨rfl, b6⟩
          have B6 := hid (below_on B5.out b6)
          clear AW b6 B5
          clear y0 y1 y2 y3 y4 y5 y6 y7 y8
          obtain ⟨y0, y1, y2, y3, y4, y5, y6, y7, y8, -, -, -, -, -, -, -, -, -⟩ := ZC.out _ B6.out
          go_wp2_with fail
          refine (RF.out _ (below_on BA.out B6.out)).mono ?_
          rintro e w7 ⟨p7, k7, rfl, i7, j7, b7⟩
          have B7 := hid (below_on B6.out b7)
          have I7 := hid i7
          have J7 := hid j7
          clear RF b7 B6 i7 j7
          clear y0 y1 y2 y3 y4 y5 y6 y7 y8
          go_wp2_with fail
          refine (CK.out _ _ _ I7.out J7.out).mono ?_
          rintro e w8 ⟨rfl, b8⟩
          have B8 := hid (below_on B7.out b8)
          clear CK I7 J7 b8 B7
          go_wp2
          go_ret
          exact ⟨rfl, below_on BA.out B8.out⟩
        · have hkd : (kd == 10) = false := by simp [h10]
          clear h10
          obtain ⟨y0, y1, y2, y3, y4, y5, y6, y7, y8, -, -, -, -, -, -, -, -, -⟩ := ZC.out _ B5.out
          obtain ⟨r5, l5⟩ := ap_fin (.string t) (RC.out _ B5.out) (below_on BA.out B5.out)
          have RY := hid r5
          have BY := hid l5
          have f1 : w5.frozen? ⟨w.heap.size, 1, none⟩ = false := (RC.out _ B5.out).frozen
          clear r5 l5 RF CK
          go_upto_region 10 with fail
          clear y0 y1 y2 y3 y4 y5 y6 y7 y8 f1
          generalize w5.setCell ⟨w.heap.size, 1, none⟩ (.string t) = U at *
          have R5 : RowIs U w.heap.size [.int .i64 kd, .string t, .string bk, .string ky, .int .i64 id, .int .i64 n, .string sm, .slice pa pn pc, .slice ka kn kc] 25 := RY.out
          have y0 : U.cell? ⟨w.heap.size, 0, none⟩ = some (.int .i64 kd) := R5.cellAt rfl
          have y1 : U.cell? ⟨w.heap.size, 1, none⟩ = some (.string t) := R5.cellAt rfl
          have y2 : U.cell? ⟨w.heap.size, 2, none⟩ = some (.string bk) := R5.cellAt rfl
          have y3 : U.cell? ⟨w.heap.size, 3, none⟩ = some (.string ky) := R5.cellAt rfl
          have y4 : U.cell? ⟨w.heap.size, 4, none⟩ = some (.int .i64 id) := R5.cellAt rfl
          have y5 : U.cell? ⟨w.heap.size, 5, none⟩ = some (.int .i64 n) := R5.cellAt rfl
          have y6 : U.cell? ⟨w.heap.size, 6, none⟩ = some (.string sm) := R5.cellAt rfl
          have y7 : U.cell? ⟨w.heap.size, 7, none⟩ = some (.slice pa pn pc) := R5.cellAt rfl
          have y8 : U.cell? ⟨w.heap.size, 8, none⟩ = some (.slice ka kn kc) := R5.cellAt rfl
          clear R5 RY ZC RC BA B5
          go_wp2_with fail
          refine (GE.out _ BY.out).mono ?_
          rintro e w6 ⟨rfl, b6⟩
          have B6 := hid (below_on BY.out b6)
          clear GE b6 BY
          clear y0 y1 y2 y3 y4 y5 y6 y7 y8
          cases ok3
          · obtain rfl : TF = 1 := HG.out
            clear HG HX
            go_wp2_with fail
            refine (AW.out _ B6.out).mono ?_
            rintro e w7 ⟨rfl, b7⟩
            have B7 := hid (below_on B6.out b7)
            clear AW b7 B6
            go_wp2
            go_ret
            exact ⟨rfl, B7.out⟩
          · obtain rfl : TF = 0 := HG.out
            obtain rfl : DG = DH := HX.out (by simp) (by simp)
            have qd : (DG.toList == DG.toList) = true := by simp
            clear HG HX
            go_wp2_with fail
            refine (AW.out _ B6.out).mono ?_
            rintro e w7 ⟨rfl, b7⟩
            have B7 := hid (below_on B6.out b7)
            clear AW b7 B6
            go_wp2
            go_ret
            exact ⟨rfl, B7.out⟩
      · have SM1 : Hid (∀ p1 k1 p2 k2 W, PcI W p1 ps → PkI W k1 ks → PcI W p2 ps2 → PkI W k2 ks2 → Calls Tryz.prog 17 #[.agg #[.int .i64 kd, .string tk, .string bk, .string ky, .int .i64 id, .int .i64 n, .string sm, p1, k1], .agg #[.int .i64 kd2, .string tk2, .string bk2, .string ky2, .int .i64 id2, .int .i64 n2, .string sm2, p2, k2]] W fun e w' => e = .returned (.bool false) ∧ Below W.heap.size W w') := fun p1 k1 p2 k2 W h1 h2 h3 h4 => by have := SM.out rfl rfl p1 k1 p2 k2 W h1 h2 h3 h4; rwa [decide_eq_false hcd] at this
        have NP1 := hid (NP.out rfl rfl hcd)
        clear SM NP HF
        have q0 : (TT.toList == UU.toList) = false := beq_eq_false_iff_ne.2 (fun h => hcd (bytesInj16 h))
        have q1 : (TT.toList != UU.toList) = true := bne_iff_ne.2 (fun h => hcd (bytesInj16 h))
        clear hcd
        by_cases hle : TT.size ≤ UU.size
        · have q2 : decide (TT.size ≤ UU.size) = true := decide_eq_true hle
          have q5 := np_ext NP1.out
          have q3 : (TT.size : Int) ≤ (UU.size : Int) := by omega
          have q4 : (0 : Int) ≤ (TT.size : Int) := by omega
          go_upto_region 4 with fail
          have B3 := hid B2.out.drew
          refine wp_region_held_drew (S := (fun w' => w'.cell? ⟨w.heap.size, 0, none⟩ = some (.int .i64 kd) ∧ w'.cell? ⟨w.heap.size, 1, none⟩ = some (.string tk) ∧ w'.cell? ⟨w.heap.size, 2, none⟩ = some (.string bk) ∧ w'.cell? ⟨w.heap.size, 3, none⟩ = some (.string ky) ∧ w'.cell? ⟨w.heap.size, 4, none⟩ = some (.int .i64 id) ∧ w'.cell? ⟨w.heap.size, 5, none⟩ = some (.int .i64 n) ∧ w'.cell? ⟨w.heap.size, 6, none⟩ = some (.string sm) ∧ w'.cell? ⟨w.heap.size, 7, none⟩ = some (.slice pa pn pc) ∧ w'.cell? ⟨w.heap.size, 8, none⟩ = some (.slice ka kn kc) ∧ w'.cell? ⟨w.heap.size + 1, 0, none⟩ = some (.int .i64 kd2) ∧ w'.cell? ⟨w.heap.size + 1, 1, none⟩ = some (.string tk2) ∧ w'.cell? ⟨w.heap.size + 1, 2, none⟩ = some (.string bk2) ∧ w'.cell? ⟨w.heap.size + 1, 3, none⟩ = some (.string ky2) ∧ w'.cell? ⟨w.heap.size + 1, 4, none⟩ = some (.int .i64 id2) ∧ w'.cell? ⟨w.heap.size + 1, 5, none⟩ = some (.int .i64 n2) ∧ w'.cell? ⟨w.heap.size + 1, 6, none⟩ = some (.string sm2) ∧ w'.cell? ⟨w.heap.size + 1, 7, none⟩ = some (.slice qa qn qc) ∧ w'.cell? ⟨w.heap.size + 1, 8, none⟩ = some (.slice la ln lc))) (by kernel_rfl) (ZC.out _ B3.out) (fun hHeld => ?_)
          refine wpAnyH_take (i := 0) (v := ?vv16) rfl (by kernel_rfl) (by kernel_rfl) (by kernel_rfl) (fun _ _ _ h => h) (Or.inl ⟨by rfl, ?hy16⟩) (by assumption) ?rest16
          case hy16 => (intro w hSw; (try dsimp only at hSw); go_simp; first | done | with_reducible rfl)
          try simp only [Act.put, List.getElem_toArray, List.getElem_cons_succ, List.getElem_cons_zero, List.setIfInBounds_toArray, List.set_cons_zero, List.set_cons_succ]
          refine wpAnyH_take (i := 1) (v := ?vv17) rfl (by kernel_rfl) (by kernel_rfl) (by kernel_rfl) (fun _ _ _ h => h) (Or.inl ⟨by rfl, ?hy17⟩) (by assumption) ?rest17
          case hy17 => (intro w hSw; (try dsimp only at hSw); go_simp; first | done | with_reducible rfl)
          try simp only [Act.put, List.getElem_toArray, List.getElem_cons_succ, List.getElem_cons_zero, List.setIfInBounds_toArray, List.set_cons_zero, List.set_cons_succ]
          refine wpAnyH_take (i := 2) (v := ?vv18) rfl (by kernel_rfl) (by kernel_rfl) (by kernel_rfl) (fun _ _ _ h => h) (Or.inl ⟨by rfl, ?hy18⟩) (by assumption) ?rest18
          case hy18 => (intro w hSw; (try dsimp only at hSw); go_simp; first | done | with_reducible rfl)
          try simp only [Act.put, List.getElem_toArray, List.getElem_cons_succ, List.getElem_cons_zero, List.setIfInBounds_toArray, List.set_cons_zero, List.set_cons_succ]
          refine wpAnyH_take (i := 3) (v := ?vv19) rfl (by kernel_rfl) (by kernel_rfl) (by kernel_rfl) (fun _ _ _ h => h) (Or.inl ⟨by rfl, ?hy19⟩) (by assumption) ?rest19
          case hy19 => (intro w hSw; (try dsimp only at hSw); go_simp; first | done | with_reducible rfl)
          try simp only [Act.put, List.getElem_toArray, List.getElem_cons_succ, List.getElem_cons_zero, List.setIfInBounds_toArray, List.set_cons_zero, List.set_cons_succ]
          refine wpAnyH_take (i := 5) (v := ?vv20) rfl (by kernel_rfl) (by kernel_rfl) (by kernel_rfl) (fun _ _ _ h => h) (Or.inl ⟨by rfl, ?hy20⟩) (by assumption) ?rest20
          case hy20 => (intro w hSw; (try dsimp only at hSw); go_simp; first | done | with_reducible rfl)
          try simp only [Act.put, List.getElem_toArray, List.getElem_cons_succ, List.getElem_cons_zero, List.setIfInBounds_toArray, List.set_cons_zero, List.set_cons_succ]
          refine wpAnyH_ready (rs := [4]) (by kernel_rfl) (by simp) ?_
          refine AllReadyH.cons rfl (fun K hK => ?_) AllReadyH.nil
          go_simp
          refine (RF.out _ (below_on BA.out B3.out)).mono ?_
          rintro e v1 ⟨p4, k4, rfl, i4, j4, b4⟩
          have D1 := hid (below_on B3.out b4)
          have I4 := hid i4
          have J4 := hid j4
          clear i4 j4 b4 hHeld B2 B3
          go_wp2_with fail
          refine hK.out _ _ (ZC.out _ D1.out) (fun hHeld => ?_)
          clear hK K
          try simp only [Act.put, List.getElem_toArray, List.getElem_cons_succ, List.getElem_cons_zero, List.setIfInBounds_toArray, List.set_cons_zero, List.set_cons_succ]
          refine wpAnyH_ready (rs := [6]) (by kernel_rfl) (by simp) ?_
          refine AllReadyH.cons rfl (fun K hK => ?_) AllReadyH.nil
          go_simp
          refine (RD.out _ (below_on BA.out D1.out)).mono ?_
          rintro e v2 ⟨p5, k5, rfl, i5, j5, b5⟩
          have D2 := hid (below_on D1.out b5)
          have I5 := hid i5
          have J5 := hid j5
          replace I4 := hid (I4.out.next b5)
          replace J4 := hid (J4.out.next b5)
          clear i5 j5 b5 hHeld D1
          go_wp2_with fail
          refine hK.out _ _ (ZC.out _ D2.out) (fun hHeld => ?_)
          clear hK K
          try simp only [Act.put, List.getElem_toArray, List.getElem_cons_succ, List.getElem_cons_zero, List.setIfInBounds_toArray, List.set_cons_zero, List.set_cons_succ]
          refine wpAnyH_ready (rs := [7]) (by kernel_rfl) (by simp) ?_
          refine AllReadyH.cons rfl (fun K hK => ?_) AllReadyH.nil
          go_simp
          refine (SM1.out _ _ _ _ _ I4.out J4.out I5.out J5.out).mono ?_
          rintro e v3 ⟨rfl, b6⟩
          have D3 := hid (below_on D2.out b6)
          clear b6 hHeld D2 I4 J4 I5 J5 SM1 RD
          go_wp2_with fail
          refine hK.out _ _ (ZC.out _ D3.out) (fun hHeld => ?_)
          clear hK K
          try simp only [Act.put, List.getElem_toArray, List.getElem_cons_succ, List.getElem_cons_zero, List.setIfInBounds_toArray, List.set_cons_zero, List.set_cons_succ]
          refine wpAnyH_take (i := 8) (v := ?vv21) rfl (by kernel_rfl) (by kernel_rfl) (by kernel_rfl) (fun _ _ _ h => h) (Or.inl ⟨by rfl, ?hy21⟩) (by assumption) ?rest21
          case hy21 => (intro w hSw; (try dsimp only at hSw); go_simp; first | done | with_reducible rfl)
          try simp only [Act.put, List.getElem_toArray, List.getElem_cons_succ, List.getElem_cons_zero, List.setIfInBounds_toArray, List.set_cons_zero, List.set_cons_succ]
          refine wpAnyH_take (i := 9) (v := ?vv22) rfl (by kernel_rfl) (by kernel_rfl) (by kernel_rfl) (fun _ _ _ h => h) (Or.inl ⟨by rfl, ?hy22⟩) (by assumption) ?rest22
          case hy22 => (intro w hSw; (try dsimp only at hSw); go_simp; first | done | with_reducible rfl)
          try simp only [Act.put, List.getElem_toArray, List.getElem_cons_succ, List.getElem_cons_zero, List.setIfInBounds_toArray, List.set_cons_zero, List.set_cons_succ]
          refine wpAnyH_take (i := 10) (v := ?vv23) rfl (by kernel_rfl) (by kernel_rfl) (by kernel_rfl) (fun _ _ _ h => h) (Or.inl ⟨by rfl, ?hy23⟩) (by assumption) ?rest23
          case hy23 => (intro w hSw; (try dsimp only at hSw); go_simp; first | done | with_reducible rfl)
          try simp only [Act.put, List.getElem_toArray, List.getElem_cons_succ, List.getElem_cons_zero, List.setIfInBounds_toArray, List.set_cons_zero, List.set_cons_succ]
          refine wpAnyH_take (i := 11) (v := ?vv24) rfl (by kernel_rfl) (by kernel_rfl) (by kernel_rfl) (fun _ _ _ h => h) (Or.inl ⟨by rfl, ?hy24⟩) (by assumption) ?rest24
          case hy24 => (intro w hSw; (try dsimp only at hSw); go_simp; first | done | with_reducible rfl)
          try simp only [Act.put, List.getElem_toArray, List.getElem_cons_succ, List.getElem_cons_zero, List.setIfInBounds_toArray, List.set_cons_zero, List.set_cons_succ]
          refine wpAnyH_take (i := 12) (v := ?vv25) rfl (by kernel_rfl) (by kernel_rfl) (by kernel_rfl) (fun _ _ _ h => h) (Or.inl ⟨by rfl, ?hy25⟩) (by assumption) ?rest25
          case hy25 => (intro w hSw; (try dsimp only at hSw); go_simp; first | done | with_reducible rfl)
          try simp only [Act.put, List.getElem_toArray, List.getElem_cons_succ, List.getElem_cons_zero, List.setIfInBounds_toArray, List.set_cons_zero, List.set_cons_succ]
          refine wpAnyH_take (i := 13) (v := ?vv26) rfl (by kernel_rfl) (by kernel_rfl) (by kernel_rfl) (fun _ _ _ h => h) (Or.inl ⟨by rfl, ?hy26⟩) (by assumption) ?rest26
          case hy26 => (intro w hSw; (try dsimp only at hSw); go_simp; first | done | with_reducible rfl)
          try simp only [Act.put, List.getElem_toArray, List.getElem_cons_succ, List.getElem_cons_zero, List.setIfInBounds_toArray, List.set_cons_zero, List.set_cons_succ]
          refine wpAnyH_take (i := 14) (v := ?vv27) rfl (by kernel_rfl) (by kernel_rfl) (by kernel_rfl) (fun _ _ _ h => h) (Or.inl ⟨by rfl, ?hy27⟩) (by assumption) ?rest27
          case hy27 => (intro w hSw; (try dsimp only at hSw); go_simp; first | done | with_reducible rfl)
          try simp only [Act.put, List.getElem_toArray, List.getElem_cons_succ, List.getElem_cons_zero, List.setIfInBounds_toArray, List.set_cons_zero, List.set_cons_succ]
          refine wpAnyH_take (i := 15) (v := ?vv28) rfl (by kernel_rfl) (by kernel_rfl) (by kernel_rfl) (fun _ _ _ h => h) (Or.inl ⟨by rfl, ?hy28⟩) (by assumption) ?rest28
          case hy28 => (intro w hSw; (try dsimp only at hSw); go_simp; first | done | with_reducible rfl)
          try simp only [Act.put, List.getElem_toArray, List.getElem_cons_succ, List.getElem_cons_zero, List.setIfInBounds_toArray, List.set_cons_zero, List.set_cons_succ]
          refine wpAnyH_take (i := 16) (v := ?vv29) rfl (by kernel_rfl) (by kernel_rfl) (by kernel_rfl) (fun _ _ _ h => h) (Or.inl ⟨by rfl, ?hy29⟩) (by assumption) ?rest29
          case hy29 => (intro w hSw; (try dsimp only at hSw); go_simp; first | done | with_reducible rfl)
          try simp only [Act.put, List.getElem_toArray, List.getElem_cons_succ, List.getElem_cons_zero, List.setIfInBounds_toArray, List.set_cons_zero, List.set_cons_succ]
          refine wpAnyH_take (i := 17) (v := ?vv30) rfl (by kernel_rfl) (by kernel_rfl) (by kernel_rfl) (fun _ _ _ h => h) (Or.inl ⟨by rfl, ?hy30⟩) (by assumption) ?rest30
          case hy30 => (intro w hSw; (try dsimp only at hSw); go_simp; first | done | with_reducible rfl)
          try simp only [Act.put, List.getElem_toArray, List.getElem_cons_succ, List.getElem_cons_zero, List.setIfInBounds_toArray, List.set_cons_zero, List.set_cons_succ]
          refine wpAnyH_take (i := 18) (v := ?vv31) rfl (by kernel_rfl) (by kernel_rfl) (by kernel_rfl) (fun _ _ _ h => h) (Or.inl ⟨by rfl, ?hy31⟩) (by assumption) ?rest31
          case hy31 => (intro w hSw; (try dsimp only at hSw); go_simp; first | done | with_reducible rfl)
          try simp only [Act.put, List.getElem_toArray, List.getElem_cons_succ, List.getElem_cons_zero, List.setIfInBounds_toArray, List.set_cons_zero, List.set_cons_succ]
          refine wpAnyH_take (i := 19) (v := ?vv32) rfl (by kernel_rfl) (by kernel_rfl) (by kernel_rfl) (fun _ _ _ h => h) (Or.inl ⟨by rfl, ?hy32⟩) (by assumption) ?rest32
          case hy32 => (intro w hSw; (try dsimp only at hSw); go_simp; first | done | with_reducible rfl)
          try simp only [Act.put, List.getElem_toArray, List.getElem_cons_succ, List.getElem_cons_zero, List.setIfInBounds_toArray, List.set_cons_zero, List.set_cons_succ]
          refine wpAnyH_take (i := 20) (v := ?vv33) rfl (by kernel_rfl) (by kernel_rfl) (by kernel_rfl) (fun _ _ _ h => h) (Or.inl ⟨by rfl, ?hy33⟩) (by assumption) ?rest33
          case hy33 => (intro w hSw; (try dsimp only at hSw); go_simp; first | done | with_reducible rfl)
          try simp only [Act.put, List.getElem_toArray, List.getElem_cons_succ, List.getElem_cons_zero, List.setIfInBounds_toArray, List.set_cons_zero, List.set_cons_succ]
          refine wpAnyH_take (i := 21) (v := ?vv34) rfl (by kernel_rfl) (by kernel_rfl) (by kernel_rfl) (fun _ _ _ h => h) (Or.inl ⟨by rfl, ?hy34⟩) (by assumption) ?rest34
          case hy34 => (intro w hSw; (try dsimp only at hSw); go_simp; first | done | with_reducible rfl)
          try simp only [Act.put, List.getElem_toArray, List.getElem_cons_succ, List.getElem_cons_zero, List.setIfInBounds_toArray, List.set_cons_zero, List.set_cons_succ]
          refine wpAnyH_take (i := 22) (v := ?vv35) rfl (by kernel_rfl) (by kernel_rfl) (by kernel_rfl) (fun _ _ _ h => h) (Or.inl ⟨by rfl, ?hy35⟩) (by assumption) ?rest35
          case hy35 => (intro w hSw; (try dsimp only at hSw); go_simp; first | done | with_reducible rfl)
          try simp only [Act.put, List.getElem_toArray, List.getElem_cons_succ, List.getElem_cons_zero, List.setIfInBounds_toArray, List.set_cons_zero, List.set_cons_succ]
          refine wpAnyH_take (i := 23) (v := ?vv36) rfl (by kernel_rfl) (by kernel_rfl) (by kernel_rfl) (fun _ _ _ h => h) (Or.inl ⟨by rfl, ?hy36⟩) (by assumption) ?rest36
          case hy36 => (intro w hSw; (try dsimp only at hSw); go_simp; first | done | with_reducible rfl)
          try simp only [Act.put, List.getElem_toArray, List.getElem_cons_succ, List.getElem_cons_zero, List.setIfInBounds_toArray, List.set_cons_zero, List.set_cons_succ]
          refine wpAnyH_take (i := 24) (v := ?vv37) rfl (by kernel_rfl) (by kernel_rfl) (by kernel_rfl) (fun _ _ _ h => h) (Or.inl ⟨by rfl, ?hy37⟩) (by assumption) ?rest37
          case hy37 => (intro w hSw; (try dsimp only at hSw); go_simp; first | done | with_reducible rfl)
          try simp only [Act.put, List.getElem_toArray, List.getElem_cons_succ, List.getElem_cons_zero, List.setIfInBounds_toArray, List.set_cons_zero, List.set_cons_succ]
          refine wpAnyH_take (i := 25) (v := ?vv38) rfl (by kernel_rfl) (by kernel_rfl) (by kernel_rfl) (fun _ _ _ h => h) (Or.inl ⟨by rfl, ?hy38⟩) (by assumption) ?rest38
          case hy38 => (intro w hSw; (try dsimp only at hSw); go_simp; first | done | with_reducible rfl)
          try simp only [Act.put, List.getElem_toArray, List.getElem_cons_succ, List.getElem_cons_zero, List.setIfInBounds_toArray, List.set_cons_zero, List.set_cons_succ]
          refine wpAnyH_take (i := 26) (v := ?vv39) rfl (by kernel_rfl) (by kernel_rfl) (by kernel_rfl) (fun _ _ _ h => h) (Or.inl ⟨by rfl, ?hy39⟩) (by assumption) ?rest39
          case hy39 => (intro w hSw; (try dsimp only at hSw); go_simp; first | done | with_reducible rfl)
          try simp only [Act.put, List.getElem_toArray, List.getElem_cons_succ, List.getElem_cons_zero, List.setIfInBounds_toArray, List.set_cons_zero, List.set_cons_succ]
          refine wpAnyH_take (i := 27) (v := ?vv40) rfl (by kernel_rfl) (by kernel_rfl) (by kernel_rfl) (fun _ _ _ h => h) (Or.inl ⟨by rfl, ?hy40⟩) (by assumption) ?rest40
          case hy40 => (intro w hSw; (try dsimp only at hSw); go_simp; first | done | with_reducible rfl)
          try simp only [Act.put, List.getElem_toArray, List.getElem_cons_succ, List.getElem_cons_zero, List.setIfInBounds_toArray, List.set_cons_zero, List.set_cons_succ]
          refine wpAnyH_take (i := 28) (v := ?vv41) rfl (by kernel_rfl) (by kernel_rfl) (by kernel_rfl) (fun _ _ _ h => h) (Or.inl ⟨by rfl, ?hy41⟩) (by assumption) ?rest41
          case hy41 => (intro w hSw; (try dsimp only at hSw); go_simp; first | done | with_reducible rfl)
          try simp only [Act.put, List.getElem_toArray, List.getElem_cons_succ, List.getElem_cons_zero, List.setIfInBounds_toArray, List.set_cons_zero, List.set_cons_succ]
          refine wpAnyH_done (by kernel_rfl) ?_ _
          obtain ⟨y0, y1, y2, y3, y4, y5, y6, y7, y8, -, -, -, -, -, -, -, -, -⟩ := ZC.out _ D3.out
          go_wp2_with fail
          refine (GC.out _ (below_on BA.out D3.out)).mono ?_
          rintro e w5 ⟨rfl, b5⟩
          have B5 := hid (below_on D3.out b5)
          clear GC b5 D3
          clear y0 y1 y2 y3 y4 y5 y6 y7 y8
          by_cases h10 : kd = 10
          · have hkd : (kd == 10) = true := by simp [h10]
            clear h10 GE HG HX RC
            obtain ⟨y0, y1, y2, y3, y4, y5, y6, y7, y8, -, -, -, -, -, -, -, -, -⟩ := ZC.out _ B5.out
            go_wp2_with fail
            refine (AW.out _ (below_on BA.out B5.out)).mono ?_
            rintro e w6 ⟨rfl, b6⟩
            have B6 := hid (below_on B5.out b6)
            clear AW b6 B5
            clear y0 y1 y2 y3 y4 y5 y6 y7 y8
            obtain ⟨y0, y1, y2, y3, y4, y5, y6, y7, y8, -, -, -, -, -, -, -, -, -⟩ := ZC.out _ B6.out
            go_wp2_with fail
            refine (RF.out _ (below_on BA.out B6.out)).mono ?_
            rintro e w7 ⟨p7, k7, rfl, i7, j7, b7⟩
            have B7 := hid (below_on B6.out b7)
            have I7 := hid i7
            have J7 := hid j7
            clear RF b7 B6 i7 j7
            clear y0 y1 y2 y3 y4 y5 y6 y7 y8
            go_wp2_with fail
            refine (CK.out _ _ _ I7.out J7.out).mono ?_
            rintro e w8 ⟨rfl, b8⟩
            have B8 := hid (below_on B7.out b8)
            clear CK I7 J7 b8 B7
            go_wp2
            go_ret
            exact ⟨rfl, below_on BA.out B8.out⟩
          · have hkd : (kd == 10) = false := by simp [h10]
            clear h10
            obtain ⟨y0, y1, y2, y3, y4, y5, y6, y7, y8, -, -, -, -, -, -, -, -, -⟩ := ZC.out _ B5.out
            obtain ⟨r5, l5⟩ := ap_fin (.string t) (RC.out _ B5.out) (below_on BA.out B5.out)
            have RY := hid r5
            have BY := hid l5
            have f1 : w5.frozen? ⟨w.heap.size, 1, none⟩ = false := (RC.out _ B5.out).frozen
            clear r5 l5 RF CK
            go_upto_region 10 with fail
            clear y0 y1 y2 y3 y4 y5 y6 y7 y8 f1
            generalize w5.setCell ⟨w.heap.size, 1, none⟩ (.string t) = U at *
            have R5 : RowIs U w.heap.size [.int .i64 kd, .string t, .string bk, .string ky, .int .i64 id, .int .i64 n, .string sm, .slice pa pn pc, .slice ka kn kc] 25 := RY.out
            have y0 : U.cell? ⟨w.heap.size, 0, none⟩ = some (.int .i64 kd) := R5.cellAt rfl
            have y1 : U.cell? ⟨w.heap.size, 1, none⟩ = some (.string t) := R5.cellAt rfl
            have y2 : U.cell? ⟨w.heap.size, 2, none⟩ = some (.string bk) := R5.cellAt rfl
            have y3 : U.cell? ⟨w.heap.size, 3, none⟩ = some (.string ky) := R5.cellAt rfl
            have y4 : U.cell? ⟨w.heap.size, 4, none⟩ = some (.int .i64 id) := R5.cellAt rfl
            have y5 : U.cell? ⟨w.heap.size, 5, none⟩ = some (.int .i64 n) := R5.cellAt rfl
            have y6 : U.cell? ⟨w.heap.size, 6, none⟩ = some (.string sm) := R5.cellAt rfl
            have y7 : U.cell? ⟨w.heap.size, 7, none⟩ = some (.slice pa pn pc) := R5.cellAt rfl
            have y8 : U.cell? ⟨w.heap.size, 8, none⟩ = some (.slice ka kn kc) := R5.cellAt rfl
            clear R5 RY ZC RC BA B5
            go_wp2_with fail
            refine (GE.out _ BY.out).mono ?_
            rintro e w6 ⟨rfl, b6⟩
            have B6 := hid (below_on BY.out b6)
            clear GE b6 BY
            clear y0 y1 y2 y3 y4 y5 y6 y7 y8
            cases ok3
            · obtain rfl : TF = 1 := HG.out
              clear HG HX
              go_wp2_with fail
              refine (AW.out _ B6.out).mono ?_
              rintro e w7 ⟨rfl, b7⟩
              have B7 := hid (below_on B6.out b7)
              clear AW b7 B6
              go_wp2
              go_ret
              exact ⟨rfl, B7.out⟩
            · obtain rfl : TF = 0 := HG.out
              obtain rfl : DG = DH := HX.out (by simp) (by simp)
              have qd : (DG.toList == DG.toList) = true := by simp
              clear HG HX
              go_wp2_with fail
              refine (AW.out _ B6.out).mono ?_
              rintro e w7 ⟨rfl, b7⟩
              have B7 := hid (below_on B6.out b7)
              clear AW b7 B6
              go_wp2
              go_ret
              exact ⟨rfl, B7.out⟩
        · have q2 : decide (TT.size ≤ UU.size) = false := decide_eq_false hle
          clear hle
          go_upto_region 4 with fail
          have B3 := hid B2.out.drew
          refine wp_region_held_drew (S := (fun w' => w'.cell? ⟨w.heap.size, 0, none⟩ = some (.int .i64 kd) ∧ w'.cell? ⟨w.heap.size, 1, none⟩ = some (.string tk) ∧ w'.cell? ⟨w.heap.size, 2, none⟩ = some (.string bk) ∧ w'.cell? ⟨w.heap.size, 3, none⟩ = some (.string ky) ∧ w'.cell? ⟨w.heap.size, 4, none⟩ = some (.int .i64 id) ∧ w'.cell? ⟨w.heap.size, 5, none⟩ = some (.int .i64 n) ∧ w'.cell? ⟨w.heap.size, 6, none⟩ = some (.string sm) ∧ w'.cell? ⟨w.heap.size, 7, none⟩ = some (.slice pa pn pc) ∧ w'.cell? ⟨w.heap.size, 8, none⟩ = some (.slice ka kn kc) ∧ w'.cell? ⟨w.heap.size + 1, 0, none⟩ = some (.int .i64 kd2) ∧ w'.cell? ⟨w.heap.size + 1, 1, none⟩ = some (.string tk2) ∧ w'.cell? ⟨w.heap.size + 1, 2, none⟩ = some (.string bk2) ∧ w'.cell? ⟨w.heap.size + 1, 3, none⟩ = some (.string ky2) ∧ w'.cell? ⟨w.heap.size + 1, 4, none⟩ = some (.int .i64 id2) ∧ w'.cell? ⟨w.heap.size + 1, 5, none⟩ = some (.int .i64 n2) ∧ w'.cell? ⟨w.heap.size + 1, 6, none⟩ = some (.string sm2) ∧ w'.cell? ⟨w.heap.size + 1, 7, none⟩ = some (.slice qa qn qc) ∧ w'.cell? ⟨w.heap.size + 1, 8, none⟩ = some (.slice la ln lc))) (by kernel_rfl) (ZC.out _ B3.out) (fun hHeld => ?_)
          refine wpAnyH_take (i := 0) (v := ?vv42) rfl (by kernel_rfl) (by kernel_rfl) (by kernel_rfl) (fun _ _ _ h => h) (Or.inl ⟨by rfl, ?hy42⟩) (by assumption) ?rest42
          case hy42 => (intro w hSw; (try dsimp only at hSw); go_simp; first | done | with_reducible rfl)
          try simp only [Act.put, List.getElem_toArray, List.getElem_cons_succ, List.getElem_cons_zero, List.setIfInBounds_toArray, List.set_cons_zero, List.set_cons_succ]
          refine wpAnyH_take (i := 1) (v := ?vv43) rfl (by kernel_rfl) (by kernel_rfl) (by kernel_rfl) (fun _ _ _ h => h) (Or.inl ⟨by rfl, ?hy43⟩) (by assumption) ?rest43
          case hy43 => (intro w hSw; (try dsimp only at hSw); go_simp; first | done | with_reducible rfl)
          try simp only [Act.put, List.getElem_toArray, List.getElem_cons_succ, List.getElem_cons_zero, List.setIfInBounds_toArray, List.set_cons_zero, List.set_cons_succ]
          refine wpAnyH_take (i := 2) (v := ?vv44) rfl (by kernel_rfl) (by kernel_rfl) (by kernel_rfl) (fun _ _ _ h => h) (Or.inl ⟨by rfl, ?hy44⟩) (by assumption) ?rest44
          case hy44 => (intro w hSw; (try dsimp only at hSw); go_simp; first | done | with_reducible rfl)
          try simp only [Act.put, List.getElem_toArray, List.getElem_cons_succ, List.getElem_cons_zero, List.setIfInBounds_toArray, List.set_cons_zero, List.set_cons_succ]
          refine wpAnyH_take (i := 3) (v := ?vv45) rfl (by kernel_rfl) (by kernel_rfl) (by kernel_rfl) (fun _ _ _ h => h) (Or.inl ⟨by rfl, ?hy45⟩) (by assumption) ?rest45
          case hy45 => (intro w hSw; (try dsimp only at hSw); go_simp; first | done | with_reducible rfl)
          try simp only [Act.put, List.getElem_toArray, List.getElem_cons_succ, List.getElem_cons_zero, List.setIfInBounds_toArray, List.set_cons_zero, List.set_cons_succ]
          refine wpAnyH_take (i := 5) (v := ?vv46) rfl (by kernel_rfl) (by kernel_rfl) (by kernel_rfl) (fun _ _ _ h => h) (Or.inl ⟨by rfl, ?hy46⟩) (by assumption) ?rest46
          case hy46 => (intro w hSw; (try dsimp only at hSw); go_simp; first | done | with_reducible rfl)
          try simp only [Act.put, List.getElem_toArray, List.getElem_cons_succ, List.getElem_cons_zero, List.setIfInBounds_toArray, List.set_cons_zero, List.set_cons_succ]
          refine wpAnyH_ready (rs := [4]) (by kernel_rfl) (by simp) ?_
          refine AllReadyH.cons rfl (fun K hK => ?_) AllReadyH.nil
          go_simp
          refine (RF.out _ (below_on BA.out B3.out)).mono ?_
          rintro e v1 ⟨p4, k4, rfl, i4, j4, b4⟩
          have D1 := hid (below_on B3.out b4)
          have I4 := hid i4
          have J4 := hid j4
          clear i4 j4 b4 hHeld B2 B3
          go_wp2_with fail
          refine hK.out _ _ (ZC.out _ D1.out) (fun hHeld => ?_)
          clear hK K
          try simp only [Act.put, List.getElem_toArray, List.getElem_cons_succ, List.getElem_cons_zero, List.setIfInBounds_toArray, List.set_cons_zero, List.set_cons_succ]
          refine wpAnyH_ready (rs := [6]) (by kernel_rfl) (by simp) ?_
          refine AllReadyH.cons rfl (fun K hK => ?_) AllReadyH.nil
          go_simp
          refine (RD.out _ (below_on BA.out D1.out)).mono ?_
          rintro e v2 ⟨p5, k5, rfl, i5, j5, b5⟩
          have D2 := hid (below_on D1.out b5)
          have I5 := hid i5
          have J5 := hid j5
          replace I4 := hid (I4.out.next b5)
          replace J4 := hid (J4.out.next b5)
          clear i5 j5 b5 hHeld D1
          go_wp2_with fail
          refine hK.out _ _ (ZC.out _ D2.out) (fun hHeld => ?_)
          clear hK K
          try simp only [Act.put, List.getElem_toArray, List.getElem_cons_succ, List.getElem_cons_zero, List.setIfInBounds_toArray, List.set_cons_zero, List.set_cons_succ]
          refine wpAnyH_ready (rs := [7]) (by kernel_rfl) (by simp) ?_
          refine AllReadyH.cons rfl (fun K hK => ?_) AllReadyH.nil
          go_simp
          refine (SM1.out _ _ _ _ _ I4.out J4.out I5.out J5.out).mono ?_
          rintro e v3 ⟨rfl, b6⟩
          have D3 := hid (below_on D2.out b6)
          clear b6 hHeld D2 I4 J4 I5 J5 SM1 RD
          go_wp2_with fail
          refine hK.out _ _ (ZC.out _ D3.out) (fun hHeld => ?_)
          clear hK K
          try simp only [Act.put, List.getElem_toArray, List.getElem_cons_succ, List.getElem_cons_zero, List.setIfInBounds_toArray, List.set_cons_zero, List.set_cons_succ]
          refine wpAnyH_take (i := 8) (v := ?vv47) rfl (by kernel_rfl) (by kernel_rfl) (by kernel_rfl) (fun _ _ _ h => h) (Or.inl ⟨by rfl, ?hy47⟩) (by assumption) ?rest47
          case hy47 => (intro w hSw; (try dsimp only at hSw); go_simp; first | done | with_reducible rfl)
          try simp only [Act.put, List.getElem_toArray, List.getElem_cons_succ, List.getElem_cons_zero, List.setIfInBounds_toArray, List.set_cons_zero, List.set_cons_succ]
          refine wpAnyH_take (i := 9) (v := ?vv48) rfl (by kernel_rfl) (by kernel_rfl) (by kernel_rfl) (fun _ _ _ h => h) (Or.inl ⟨by rfl, ?hy48⟩) (by assumption) ?rest48
          case hy48 => (intro w hSw; (try dsimp only at hSw); go_simp; first | done | with_reducible rfl)
          try simp only [Act.put, List.getElem_toArray, List.getElem_cons_succ, List.getElem_cons_zero, List.setIfInBounds_toArray, List.set_cons_zero, List.set_cons_succ]
          refine wpAnyH_take (i := 10) (v := ?vv49) rfl (by kernel_rfl) (by kernel_rfl) (by kernel_rfl) (fun _ _ _ h => h) (Or.inl ⟨by rfl, ?hy49⟩) (by assumption) ?rest49
          case hy49 => (intro w hSw; (try dsimp only at hSw); go_simp; first | done | with_reducible rfl)
          try simp only [Act.put, List.getElem_toArray, List.getElem_cons_succ, List.getElem_cons_zero, List.setIfInBounds_toArray, List.set_cons_zero, List.set_cons_succ]
          refine wpAnyH_take (i := 11) (v := ?vv50) rfl (by kernel_rfl) (by kernel_rfl) (by kernel_rfl) (fun _ _ _ h => h) (Or.inl ⟨by rfl, ?hy50⟩) (by assumption) ?rest50
          case hy50 => (intro w hSw; (try dsimp only at hSw); go_simp; first | done | with_reducible rfl)
          try simp only [Act.put, List.getElem_toArray, List.getElem_cons_succ, List.getElem_cons_zero, List.setIfInBounds_toArray, List.set_cons_zero, List.set_cons_succ]
          refine wpAnyH_take (i := 12) (v := ?vv51) rfl (by kernel_rfl) (by kernel_rfl) (by kernel_rfl) (fun _ _ _ h => h) (Or.inl ⟨by rfl, ?hy51⟩) (by assumption) ?rest51
          case hy51 => (intro w hSw; (try dsimp only at hSw); go_simp; first | done | with_reducible rfl)
          try simp only [Act.put, List.getElem_toArray, List.getElem_cons_succ, List.getElem_cons_zero, List.setIfInBounds_toArray, List.set_cons_zero, List.set_cons_succ]
          refine wpAnyH_take (i := 13) (v := ?vv52) rfl (by kernel_rfl) (by kernel_rfl) (by kernel_rfl) (fun _ _ _ h => h) (Or.inl ⟨by rfl, ?hy52⟩) (by assumption) ?rest52
          case hy52 => (intro w hSw; (try dsimp only at hSw); go_simp; first | done | with_reducible rfl)
          try simp only [Act.put, List.getElem_toArray, List.getElem_cons_succ, List.getElem_cons_zero, List.setIfInBounds_toArray, List.set_cons_zero, List.set_cons_succ]
          refine wpAnyH_take (i := 14) (v := ?vv53) rfl (by kernel_rfl) (by kernel_rfl) (by kernel_rfl) (fun _ _ _ h => h) (Or.inl ⟨by rfl, ?hy53⟩) (by assumption) ?rest53
          case hy53 => (intro w hSw; (try dsimp only at hSw); go_simp; first | done | with_reducible rfl)
          try simp only [Act.put, List.getElem_toArray, List.getElem_cons_succ, List.getElem_cons_zero, List.setIfInBounds_toArray, List.set_cons_zero, List.set_cons_succ]
          refine wpAnyH_take (i := 15) (v := ?vv54) rfl (by kernel_rfl) (by kernel_rfl) (by kernel_rfl) (fun _ _ _ h => h) (Or.inl ⟨by rfl, ?hy54⟩) (by assumption) ?rest54
          case hy54 => (intro w hSw; (try dsimp only at hSw); go_simp; first | done | with_reducible rfl)
          try simp only [Act.put, List.getElem_toArray, List.getElem_cons_succ, List.getElem_cons_zero, List.setIfInBounds_toArray, List.set_cons_zero, List.set_cons_succ]
          refine wpAnyH_take (i := 16) (v := ?vv55) rfl (by kernel_rfl) (by kernel_rfl) (by kernel_rfl) (fun _ _ _ h => h) (Or.inl ⟨by rfl, ?hy55⟩) (by assumption) ?rest55
          case hy55 => (intro w hSw; (try dsimp only at hSw); go_simp; first | done | with_reducible rfl)
          try simp only [Act.put, List.getElem_toArray, List.getElem_cons_succ, List.getElem_cons_zero, List.setIfInBounds_toArray, List.set_cons_zero, List.set_cons_succ]
          refine wpAnyH_take (i := 17) (v := ?vv56) rfl (by kernel_rfl) (by kernel_rfl) (by kernel_rfl) (fun _ _ _ h => h) (Or.inl ⟨by rfl, ?hy56⟩) (by assumption) ?rest56
          case hy56 => (intro w hSw; (try dsimp only at hSw); go_simp; first | done | with_reducible rfl)
          try simp only [Act.put, List.getElem_toArray, List.getElem_cons_succ, List.getElem_cons_zero, List.setIfInBounds_toArray, List.set_cons_zero, List.set_cons_succ]
          refine wpAnyH_take (i := 18) (v := ?vv57) rfl (by kernel_rfl) (by kernel_rfl) (by kernel_rfl) (fun _ _ _ h => h) (Or.inl ⟨by rfl, ?hy57⟩) (by assumption) ?rest57
          case hy57 => (intro w hSw; (try dsimp only at hSw); go_simp; first | done | with_reducible rfl)
          try simp only [Act.put, List.getElem_toArray, List.getElem_cons_succ, List.getElem_cons_zero, List.setIfInBounds_toArray, List.set_cons_zero, List.set_cons_succ]
          refine wpAnyH_take (i := 19) (v := ?vv58) rfl (by kernel_rfl) (by kernel_rfl) (by kernel_rfl) (fun _ _ _ h => h) (Or.inl ⟨by rfl, ?hy58⟩) (by assumption) ?rest58
          case hy58 => (intro w hSw; (try dsimp only at hSw); go_simp; first | done | with_reducible rfl)
          try simp only [Act.put, List.getElem_toArray, List.getElem_cons_succ, List.getElem_cons_zero, List.setIfInBounds_toArray, List.set_cons_zero, List.set_cons_succ]
          refine wpAnyH_take (i := 20) (v := ?vv59) rfl (by kernel_rfl) (by kernel_rfl) (by kernel_rfl) (fun _ _ _ h => h) (Or.inl ⟨by rfl, ?hy59⟩) (by assumption) ?rest59
          case hy59 => (intro w hSw; (try dsimp only at hSw); go_simp; first | done | with_reducible rfl)
          try simp only [Act.put, List.getElem_toArray, List.getElem_cons_succ, List.getElem_cons_zero, List.setIfInBounds_toArray, List.set_cons_zero, List.set_cons_succ]
          refine wpAnyH_take (i := 21) (v := undef) rfl (by kernel_rfl) (by kernel_rfl) (by kernel_rfl) (fun _ _ _ h => h) (Or.inr ⟨by rfl, rfl⟩) (by assumption) ?_
          try simp only [Act.put, List.getElem_toArray, List.getElem_cons_succ, List.getElem_cons_zero, List.setIfInBounds_toArray, List.set_cons_zero, List.set_cons_succ]
          refine wpAnyH_take (i := 22) (v := undef) rfl (by kernel_rfl) (by kernel_rfl) (by kernel_rfl) (fun _ _ _ h => h) (Or.inr ⟨by rfl, rfl⟩) (by assumption) ?_
          try simp only [Act.put, List.getElem_toArray, List.getElem_cons_succ, List.getElem_cons_zero, List.setIfInBounds_toArray, List.set_cons_zero, List.set_cons_succ]
          refine wpAnyH_take (i := 23) (v := undef) rfl (by kernel_rfl) (by kernel_rfl) (by kernel_rfl) (fun _ _ _ h => h) (Or.inr ⟨by rfl, rfl⟩) (by assumption) ?_
          try simp only [Act.put, List.getElem_toArray, List.getElem_cons_succ, List.getElem_cons_zero, List.setIfInBounds_toArray, List.set_cons_zero, List.set_cons_succ]
          refine wpAnyH_take (i := 24) (v := undef) rfl (by kernel_rfl) (by kernel_rfl) (by kernel_rfl) (fun _ _ _ h => h) (Or.inr ⟨by rfl, rfl⟩) (by assumption) ?_
          try simp only [Act.put, List.getElem_toArray, List.getElem_cons_succ, List.getElem_cons_zero, List.setIfInBounds_toArray, List.set_cons_zero, List.set_cons_succ]
          refine wpAnyH_take (i := 25) (v := undef) rfl (by kernel_rfl) (by kernel_rfl) (by kernel_rfl) (fun _ _ _ h => h) (Or.inr ⟨by rfl, rfl⟩) (by assumption) ?_
          try simp only [Act.put, List.getElem_toArray, List.getElem_cons_succ, List.getElem_cons_zero, List.setIfInBounds_toArray, List.set_cons_zero, List.set_cons_succ]
          refine wpAnyH_take (i := 26) (v := undef) rfl (by kernel_rfl) (by kernel_rfl) (by kernel_rfl) (fun _ _ _ h => h) (Or.inr ⟨by rfl, rfl⟩) (by assumption) ?_
          try simp only [Act.put, List.getElem_toArray, List.getElem_cons_succ, List.getElem_cons_zero, List.setIfInBounds_toArray, List.set_cons_zero, List.set_cons_succ]
          refine wpAnyH_take (i := 27) (v := ?vv60) rfl (by kernel_rfl) (by kernel_rfl) (by kernel_rfl) (fun _ _ _ h => h) (Or.inl ⟨by rfl, ?hy60⟩) (by assumption) ?rest60
          case hy60 => (intro w hSw; (try dsimp only at hSw); go_simp; first | done | with_reducible rfl)
          try simp only [Act.put, List.getElem_toArray, List.getElem_cons_succ, List.getElem_cons_zero, List.setIfInBounds_toArray, List.set_cons_zero, List.set_cons_succ]
          refine wpAnyH_take (i := 28) (v := ?vv61) rfl (by kernel_rfl) (by kernel_rfl) (by kernel_rfl) (fun _ _ _ h => h) (Or.inl ⟨by rfl, ?hy61⟩) (by assumption) ?rest61
          case hy61 => (intro w hSw; (try dsimp only at hSw); go_simp; first | done | with_reducible rfl)
          try simp only [Act.put, List.getElem_toArray, List.getElem_cons_succ, List.getElem_cons_zero, List.setIfInBounds_toArray, List.set_cons_zero, List.set_cons_succ]
          refine wpAnyH_done (by kernel_rfl) ?_ _
          obtain ⟨y0, y1, y2, y3, y4, y5, y6, y7, y8, -, -, -, -, -, -, -, -, -⟩ := ZC.out _ D3.out
          go_wp2_with fail
          refine (GC.out _ (below_on BA.out D3.out)).mono ?_
          rintro e w5 ⟨rfl, b5⟩
          have B5 := hid (below_on D3.out b5)
          clear GC b5 D3
          clear y0 y1 y2 y3 y4 y5 y6 y7 y8
          by_cases h10 : kd = 10
          · have hkd : (kd == 10) = true := by simp [h10]
            clear h10 GE HG HX RC
            obtain ⟨y0, y1, y2, y3, y4, y5, y6, y7, y8, -, -, -, -, -, -, -, -, -⟩ := ZC.out _ B5.out
            go_wp2_with fail
            refine (AW.out _ (below_on BA.out B5.out)).mono ?_
            rintro e w6 ⟨rfl, b6⟩
            have B6 := hid (below_on B5.out b6)
            clear AW b6 B5
            clear y0 y1 y2 y3 y4 y5 y6 y7 y8
            obtain ⟨y0, y1, y2, y3, y4, y5, y6, y7, y8, -, -, -, -, -, -, -, -, -⟩ := ZC.out _ B6.out
            go_wp2_with fail
            refine (RF.out _ (below_on BA.out B6.out)).mono ?_
            rintro e w7 ⟨p7, k7, rfl, i7, j7, b7⟩
            have B7 := hid (below_on B6.out b7)
            have I7 := hid i7
            have J7 := hid j7
            clear RF b7 B6 i7 j7
            clear y0 y1 y2 y3 y4 y5 y6 y7 y8
            go_wp2_with fail
            refine (CK.out _ _ _ I7.out J7.out).mono ?_
            rintro e w8 ⟨rfl, b8⟩
            have B8 := hid (below_on B7.out b8)
            clear CK I7 J7 b8 B7
            go_wp2
            go_ret
            exact ⟨rfl, below_on BA.out B8.out⟩
          · have hkd : (kd == 10) = false := by simp [h10]
            clear h10
            obtain ⟨y0, y1, y2, y3, y4, y5, y6, y7, y8, -, -, -, -, -, -, -, -, -⟩ := ZC.out _ B5.out
            obtain ⟨r5, l5⟩ := ap_fin (.string t) (RC.out _ B5.out) (below_on BA.out B5.out)
            have RY := hid r5
            have BY := hid l5
            have f1 : w5.frozen? ⟨w.heap.size, 1, none⟩ = false := (RC.out _ B5.out).frozen
            clear r5 l5 RF CK
            go_upto_region 10 with fail
            clear y0 y1 y2 y3 y4 y5 y6 y7 y8 f1
            generalize w5.setCell ⟨w.heap.size, 1, none⟩ (.string t) = U at *
            have R5 : RowIs U w.heap.size [.int .i64 kd, .string t, .string bk, .string ky, .int .i64 id, .int .i64 n, .string sm, .slice pa pn pc, .slice ka kn kc] 25 := RY.out
            have y0 : U.cell? ⟨w.heap.size, 0, none⟩ = some (.int .i64 kd) := R5.cellAt rfl
            have y1 : U.cell? ⟨w.heap.size, 1, none⟩ = some (.string t) := R5.cellAt rfl
            have y2 : U.cell? ⟨w.heap.size, 2, none⟩ = some (.string bk) := R5.cellAt rfl
            have y3 : U.cell? ⟨w.heap.size, 3, none⟩ = some (.string ky) := R5.cellAt rfl
            have y4 : U.cell? ⟨w.heap.size, 4, none⟩ = some (.int .i64 id) := R5.cellAt rfl
            have y5 : U.cell? ⟨w.heap.size, 5, none⟩ = some (.int .i64 n) := R5.cellAt rfl
            have y6 : U.cell? ⟨w.heap.size, 6, none⟩ = some (.string sm) := R5.cellAt rfl
            have y7 : U.cell? ⟨w.heap.size, 7, none⟩ = some (.slice pa pn pc) := R5.cellAt rfl
            have y8 : U.cell? ⟨w.heap.size, 8, none⟩ = some (.slice ka kn kc) := R5.cellAt rfl
            clear R5 RY ZC RC BA B5
            go_wp2_with fail
            refine (GE.out _ BY.out).mono ?_
            rintro e w6 ⟨rfl, b6⟩
            have B6 := hid (below_on BY.out b6)
            clear GE b6 BY
            clear y0 y1 y2 y3 y4 y5 y6 y7 y8
            cases ok3
            · obtain rfl : TF = 1 := HG.out
              clear HG HX
              go_wp2_with fail
              refine (AW.out _ B6.out).mono ?_
              rintro e w7 ⟨rfl, b7⟩
              have B7 := hid (below_on B6.out b7)
              clear AW b7 B6
              go_wp2
              go_ret
              exact ⟨rfl, B7.out⟩
            · obtain rfl : TF = 0 := HG.out
              obtain rfl : DG = DH := HX.out (by simp) (by simp)
              have qd : (DG.toList == DG.toList) = true := by simp
              clear HG HX
              go_wp2_with fail
              refine (AW.out _ B6.out).mono ?_
              rintro e w7 ⟨rfl, b7⟩
              have B7 := hid (below_on B6.out b7)
              clear AW b7 B6
              go_wp2
              go_ret
              exact ⟨rfl, B7.out⟩
end Go.Proofs.YtikkpfchbcfhlaaGreat
