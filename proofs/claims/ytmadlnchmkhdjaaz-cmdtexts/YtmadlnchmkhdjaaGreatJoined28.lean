/- Joined: The document's text and digest of a command. The walk of the law CmdTexts. -/
import Derived.Test.YtmadlnchmkhdjaaGreatJoined27
import Derived.Test.YtmadlnchmkhdjaaGreatJoined21
import Derived.Test.YtmadlnchmkhdjaaGreatJoined22
import Derived.Test.YtmadlnchmkhdjaaGreatJoined23
namespace Go.Proofs.YtmadlnchmkhdjaaGreat
open Go.RowKit Go.Maps
set_option linter.unusedVariables false
set_option linter.unusedSimpArgs false

set_option maxRecDepth 100000 in
set_option maxHeartbeats 4000000 in
theorem rencode16_any (pv kv : Value) (c : Cm) (w : World) (hp : PcI w pv c.ps) (hk : PkI w kv c.ks) (hz : ibulk.SzMb c) : Calls Tryz.prog 8 #[cmV pv kv c] w fun e w' => e = .returned (.tuple #[.string (cmT c), .int .i64 (ckN c)]) ∧ Below w.heap.size w w' := by
  obtain ⟨pa, pc, rfl, -⟩ := hp.form
  obtain ⟨ka, kc, rfl, -⟩ := hk.form
  have CK : Hid (∀ W, Below w.heap.size w W → Calls Tryz.prog 14 #[cmV (.slice pa c.ps.length pc) (.slice ka c.ks.length kc) c] W fun e w' => e = .returned (.int .i64 (ckN c)) ∧ Below W.heap.size W w') := fun W hW => rcheck16_any _ _ c W (hp.next hW) (hk.next hW) hz
  have TX : Hid (cmOk c = true → ∀ W, Below w.heap.size w W → Calls Tryz.prog 23 #[cmV (.slice pa c.ps.length pc) (.slice ka c.ks.length kc) c] W fun e w' => e = .returned (.string ⟨(cmB c).toArray⟩) ∧ Below W.heap.size W w') := fun ho W hW => rtold16_any _ _ c W (hp.next hW) (hk.next hW) (cm_bd ho) (cm_8 ho)
  unfold cmT
  unfold ckN at *
  clear hp hk hz
  generalize cmB c = R at *
  generalize cmOk c = ok at *
  unfold cmV at *
  obtain ⟨kd, tk, bk, ky, id, n, sm, ps, ks⟩ := c
  simp only at *
  generalize ps.length = pn at *
  generalize ks.length = kn at *
  have ZC0 := hid (srow w [.int .i64 kd, .string tk, .string bk, .string ky, .int .i64 id, .int .i64 n, .string sm, .slice pa pn pc, .slice ka kn kc] 34)
  have BA := hid (below_al (Below.refl w.heap.size w) (.cells #[.int .i64 kd, .string tk, .string bk, .string ky, .int .i64 id, .int .i64 n, .string sm, .slice pa pn pc, .slice ka kn kc] 34))
  have BX : Hid (∀ W, Below (w.alloc (.cells #[.int .i64 kd, .string tk, .string bk, .string ky, .int .i64 id, .int .i64 n, .string sm, .slice pa pn pc, .slice ka kn kc] 34)).heap.size (w.alloc (.cells #[.int .i64 kd, .string tk, .string bk, .string ky, .int .i64 id, .int .i64 n, .string sm, .slice pa pn pc, .slice ka kn kc] 34)) W → W.cell? ⟨w.heap.size, 0, none⟩ = some (.int .i64 kd) ∧ W.cell? ⟨w.heap.size, 1, none⟩ = some (.string tk) ∧ W.cell? ⟨w.heap.size, 2, none⟩ = some (.string bk) ∧ W.cell? ⟨w.heap.size, 3, none⟩ = some (.string ky) ∧ W.cell? ⟨w.heap.size, 4, none⟩ = some (.int .i64 id) ∧ W.cell? ⟨w.heap.size, 5, none⟩ = some (.int .i64 n) ∧ W.cell? ⟨w.heap.size, 6, none⟩ = some (.string sm) ∧ W.cell? ⟨w.heap.size, 7, none⟩ = some (.slice pa pn pc) ∧ W.cell? ⟨w.heap.size, 8, none⟩ = some (.slice ka kn kc)) := fun W hW => by
    have q := ZC0.out.keep (hW.keep (fun _ => False)) (fun h => h)
    exact ⟨q.cellAt rfl, q.cellAt rfl, q.cellAt rfl, q.cellAt rfl, q.cellAt rfl, q.cellAt rfl, q.cellAt rfl, q.cellAt rfl, q.cellAt rfl⟩
  clear ZC0
  have B0 := hid (Below.refl (w.alloc (.cells #[.int .i64 kd, .string tk, .string bk, .string ky, .int .i64 id, .int .i64 n, .string sm, .slice pa pn pc, .slice ka kn kc] 34)).heap.size (w.alloc (.cells #[.int .i64 kd, .string tk, .string bk, .string ky, .int .i64 id, .int .i64 n, .string sm, .slice pa pn pc, .slice ka kn kc] 34)))
  obtain ⟨c0, c1, c2, c3, c4, c5, c6, c7, c8⟩ := BX.out _ B0.out
  cases ok
  · go_enter Tryz.func8, Tryz.ntmps8
    go_wp2_with fail
    refine (CK.out _ (below_on BA.out B0.out)).mono ?_
    rintro e w1 ⟨rfl, b1⟩
    have B1 := hid (below_on BA.out b1)
    clear TX CK BX b1 c0 c1 c2 c3 c4 c5 c6 c7 c8
    go_wp2
    go_ret2
    exact ⟨rfl, B1.out⟩
  · have TX1 := hid (TX.out rfl)
    go_enter Tryz.func8, Tryz.ntmps8
    go_wp2_with fail
    refine (CK.out _ (below_on BA.out B0.out)).mono ?_
    rintro e w1 ⟨rfl, b1⟩
    have B1 := hid b1
    clear TX CK b1 c0 c1 c2 c3 c4 c5 c6 c7 c8
    obtain ⟨c0, c1, c2, c3, c4, c5, c6, c7, c8⟩ := BX.out _ B1.out
    go_wp2_with fail
    refine (TX1.out _ (below_on BA.out B1.out)).mono ?_
    rintro e w2 ⟨rfl, b2⟩
    have B2 := hid (below_on (below_on BA.out B1.out) b2)
    clear TX1 BX b2 B1 c0 c1 c2 c3 c4 c5 c6 c7 c8
    go_wp2
    go_ret2
    exact ⟨rfl, B2.out⟩
set_option maxRecDepth 100000 in
set_option maxHeartbeats 4000000 in
theorem rdigest16_any (pv kv : Value) (c : Cm) (w : World) (hp : PcI w pv c.ps) (hk : PkI w kv c.ks) (hz : ibulk.SzMb c) : Calls Tryz.prog 11 #[cmV pv kv c] w fun e w' => e = .returned (.tuple #[.string (dgT c), .int .i64 (ckN c)]) ∧ Below w.heap.size w w' := by
  obtain ⟨pa, pc, rfl, -⟩ := hp.form
  obtain ⟨ka, kc, rfl, -⟩ := hk.form
  have CK : Hid (∀ W, Below w.heap.size w W → Calls Tryz.prog 14 #[cmV (.slice pa c.ps.length pc) (.slice ka c.ks.length kc) c] W fun e w' => e = .returned (.int .i64 (ckN c)) ∧ Below W.heap.size W w') := fun W hW => rcheck16_any _ _ c W (hp.next hW) (hk.next hW) hz
  have TX : Hid (cmOk c = true → ∀ W, Below w.heap.size w W → Calls Tryz.prog 23 #[cmV (.slice pa c.ps.length pc) (.slice ka c.ks.length kc) (noT c)] W fun e w' => e = .returned (.string ⟨(cmB (noT c)).toArray⟩) ∧ Below W.heap.size W w') := fun ho W hW => rtold16_any _ _ (noT c) W (hp.next hW) (hk.next hW) (noT_bd (cm_bd ho)) (fun h => (cm_8 ho h : c.ks = []))
  have TG : Hid (cmOk c = true → ∀ W : World, Calls Tryz.prog 28 #[.int .u8 67, .slice (some ⟨W.heap.size, 0, none⟩) 1 1] (W.alloc (.cells #[.string ⟨(cmB (noT c)).toArray⟩] 9)) fun e w' => e = .returned (.string ⟨(sha (tld 67 [⟨(cmB (noT c)).toArray⟩])).toArray⟩) ∧ Below (W.heap.size + 1) (W.alloc (.cells #[.string ⟨(cmB (noT c)).toArray⟩] 9)) w') := fun ho W => by
    have hz := cmB_len (noT_bd (cm_bd ho))
    have := rtagged_any 67 _ [⟨(cmB (noT c)).toArray⟩] (W.alloc (.cells #[.string ⟨(cmB (noT c)).toArray⟩] 9)) (strs_one16 _) (by show (List.map _ [_]).sum ≤ _; simp; show (cmB (noT c)).toArray.size ≤ _; simp; omega)
    rw [show (W.alloc (.cells #[.string ⟨(cmB (noT c)).toArray⟩] 9)).heap.size = W.heap.size + 1 from by simp] at this
    exact this
  have HX : Hid (∀ W, Calls Tryz.prog 27 #[.string ⟨(sha (tld 67 [⟨(cmB (noT c)).toArray⟩])).toArray⟩] W fun e w' => e = .returned (.string ⟨(hexL (sha (tld 67 [⟨(cmB (noT c)).toArray⟩]))).toArray⟩) ∧ Below W.heap.size W w') := fun W => by
    have := rhex_any ⟨(sha (tld 67 [⟨(cmB (noT c)).toArray⟩])).toArray⟩ W (by show (sha _).toArray.size ≤ _; simp [sha_len])
    simpa using this
  unfold dgT
  unfold ckN at *
  clear hp hk hz
  generalize cmB (noT c) = R at *
  generalize cmOk c = ok at *
  generalize sha (tld 67 [⟨R.toArray⟩]) = SH at *
  unfold noT at *
  unfold cmV at *
  obtain ⟨kd, tk, bk, ky, id, n, sm, ps, ks⟩ := c
  simp only at *
  generalize ps.length = pn at *
  generalize ks.length = kn at *
  have ZC0 := hid (srow w [.int .i64 kd, .string tk, .string bk, .string ky, .int .i64 id, .int .i64 n, .string sm, .slice pa pn pc, .slice ka kn kc] 34)
  have BA := hid (below_al (Below.refl w.heap.size w) (.cells #[.int .i64 kd, .string tk, .string bk, .string ky, .int .i64 id, .int .i64 n, .string sm, .slice pa pn pc, .slice ka kn kc] 34))
  have BX : Hid (∀ W, Below (w.alloc (.cells #[.int .i64 kd, .string tk, .string bk, .string ky, .int .i64 id, .int .i64 n, .string sm, .slice pa pn pc, .slice ka kn kc] 34)).heap.size (w.alloc (.cells #[.int .i64 kd, .string tk, .string bk, .string ky, .int .i64 id, .int .i64 n, .string sm, .slice pa pn pc, .slice ka kn kc] 34)) W → W.cell? ⟨w.heap.size, 0, none⟩ = some (.int .i64 kd) ∧ W.cell? ⟨w.heap.size, 1, none⟩ = some (.string tk) ∧ W.cell? ⟨w.heap.size, 2, none⟩ = some (.string bk) ∧ W.cell? ⟨w.heap.size, 3, none⟩ = some (.string ky) ∧ W.cell? ⟨w.heap.size, 4, none⟩ = some (.int .i64 id) ∧ W.cell? ⟨w.heap.size, 5, none⟩ = some (.int .i64 n) ∧ W.cell? ⟨w.heap.size, 6, none⟩ = some (.string sm) ∧ W.cell? ⟨w.heap.size, 7, none⟩ = some (.slice pa pn pc) ∧ W.cell? ⟨w.heap.size, 8, none⟩ = some (.slice ka kn kc)) := fun W hW => by
    have q := ZC0.out.keep (hW.keep (fun _ => False)) (fun h => h)
    exact ⟨q.cellAt rfl, q.cellAt rfl, q.cellAt rfl, q.cellAt rfl, q.cellAt rfl, q.cellAt rfl, q.cellAt rfl, q.cellAt rfl, q.cellAt rfl⟩
  clear ZC0
  have B0 := hid (Below.refl (w.alloc (.cells #[.int .i64 kd, .string tk, .string bk, .string ky, .int .i64 id, .int .i64 n, .string sm, .slice pa pn pc, .slice ka kn kc] 34)).heap.size (w.alloc (.cells #[.int .i64 kd, .string tk, .string bk, .string ky, .int .i64 id, .int .i64 n, .string sm, .slice pa pn pc, .slice ka kn kc] 34)))
  have RW : Hid (∀ W, Below (w.alloc (.cells #[.int .i64 kd, .string tk, .string bk, .string ky, .int .i64 id, .int .i64 n, .string sm, .slice pa pn pc, .slice ka kn kc] 34)).heap.size (w.alloc (.cells #[.int .i64 kd, .string tk, .string bk, .string ky, .int .i64 id, .int .i64 n, .string sm, .slice pa pn pc, .slice ka kn kc] 34)) W → RowIs W w.heap.size [.int .i64 kd, .string tk, .string bk, .string ky, .int .i64 id, .int .i64 n, .string sm, .slice pa pn pc, .slice ka kn kc] 34) := fun W hW => (srow w [.int .i64 kd, .string tk, .string bk, .string ky, .int .i64 id, .int .i64 n, .string sm, .slice pa pn pc, .slice ka kn kc] 34).keep (hW.keep (fun _ => False)) (fun h => h)
  obtain ⟨c0, c1, c2, c3, c4, c5, c6, c7, c8⟩ := BX.out _ B0.out
  cases ok
  · go_enter Tryz.func11, Tryz.ntmps11
    go_wp2_with fail
    refine (CK.out _ (below_on BA.out B0.out)).mono ?_
    rintro e w1 ⟨rfl, b1⟩
    have B1 := hid (below_on BA.out b1)
    clear TX CK BX b1 c0 c1 c2 c3 c4 c5 c6 c7 c8
    go_wp2
    go_ret2
    exact ⟨rfl, B1.out⟩
  · have TX1 := hid (TX.out rfl)
    have TG1 := hid (TG.out rfl)
    go_enter Tryz.func11, Tryz.ntmps11
    go_wp2_with fail
    refine (CK.out _ (below_on BA.out B0.out)).mono ?_
    rintro e w1 ⟨rfl, b1⟩
    have B1 := hid b1
    clear TX TG CK b1 c0 c1 c2 c3 c4 c5 c6 c7 c8
    obtain ⟨c0, c1, c2, c3, c4, c5, c6, c7, c8⟩ := BX.out _ B1.out
    have f1 : w1.frozen? ⟨w.heap.size, 1, none⟩ = false := (RW.out _ B1.out).frozen
    have B2 : Hid (Below w.heap.size w (w1.setCell ⟨w.heap.size, 1, none⟩ (.string ⟨#[]⟩))) := (below_on BA.out B1.out).trans (keep_below (keep_setCell w1 w.heap.size 1 (.string ⟨#[]⟩)) (fun j hj e => by omega) (below_on BA.out B1.out).size)
    clear RW BX BA B0 B1
    go_wp2_with fail
    refine (TX1.out _ B2.out).mono ?_
    rintro e w2 ⟨rfl, b2⟩
    have B3 := hid (below_on B2.out b2)
    clear TX1 b2 B2 c0 c1 c2 c3 c4 c5 c6 c7 c8 f1
    go_wp2_with fail
    refine (TG1.out w2).mono ?_
    rintro e w3 ⟨rfl, b3⟩
    have B4 := hid (below_on (below_al B3.out (.cells #[.string ⟨R.toArray⟩] 9)) (by simpa using b3))
    clear TG1 b3 B3
    go_wp2_with fail
    refine (HX.out _).mono ?_
    rintro e w4 ⟨rfl, b4⟩
    have B5 := hid (below_on B4.out b4)
    clear HX b4 B4
    go_wp2
    go_ret2
    exact ⟨rfl, B5.out⟩
end Go.Proofs.YtmadlnchmkhdjaaGreat
namespace Go.Proofs.YtmadlnchmkhdjaaGreat
open Go.RowKit Go.Maps
set_option linter.unusedVariables false
set_option linter.unusedSimpArgs false

theorem maxL_of {w : World} (h : w.ShapedOpen Tryz.prog) : MaxL w := containsLaid.s1_3 w h
set_option maxRecDepth 100000 in
set_option maxHeartbeats 4000000 in
theorem cmdTexts_walk (pv kv : Value) (c : Cm) (w : World) (hp : PcI w pv c.ps) (hk : PkI w kv c.ks) (hz : ibulk.SzMb c) (hm : MaxL w) : Calls Tryz.prog 3 #[cmV pv kv c] w fun e w' => e = .returned (.bool true) ∧ Below w.heap.size w w' := by
  obtain ⟨pa, pc, rfl, -⟩ := hp.form
  obtain ⟨ka, kc, rfl, -⟩ := hk.form
  have hkl : c.ks.length ≤ 8796093022208 := by have := hz.kl; omega
  have EN : Hid (∀ W, Below w.heap.size w W → Calls Tryz.prog 7 #[cmV (.slice pa c.ps.length pc) (.slice ka c.ks.length kc) c] W fun e w' => e = .returned (.tuple #[.string (cmT c), .int .i64 (ckN c)]) ∧ Below W.heap.size W w') := fun W hW => cencode_any _ _ c W (hp.next hW) (hk.next hW) hkl (hm.keep (hW.keep _))
  have DI : Hid (∀ W, Below w.heap.size w W → Calls Tryz.prog 10 #[cmV (.slice pa c.ps.length pc) (.slice ka c.ks.length kc) c] W fun e w' => e = .returned (.tuple #[.string (dgT c), .int .i64 (ckN c)]) ∧ Below W.heap.size W w') := fun W hW => cdigest_any _ _ c W (hp.next hW) (hk.next hW) hkl (hm.keep (hW.keep _))
  have CK : Hid (∀ W, Below w.heap.size w W → Calls Tryz.prog 13 #[cmV (.slice pa c.ps.length pc) (.slice ka c.ks.length kc) c] W fun e w' => e = .returned (.int .i64 (ckN c)) ∧ Below W.heap.size W w') := fun W hW => ccheck_any _ _ c W (hp.next hW) (hk.next hW) hkl (hm.keep (hW.keep _))
  have RF1 : Hid (∀ W, Below w.heap.size w W → Calls Tryz.prog 9 #[cmV (.slice pa c.ps.length pc) (.slice ka c.ks.length kc) c] W fun e w' => ∃ p2 k2, e = .returned (cmV p2 k2 c) ∧ PcI w' p2 c.ps ∧ PkI w' k2 c.ks ∧ Below W.heap.size W w') := fun W hW => (cref_any _ _ c W (hp.next hW) (hk.next hW) hz.pl hz.kl).mono fun e w' ⟨p2, k2, he, ho, hok, hb⟩ => ⟨p2, k2, he, ho.pcs, hok.pks, hb⟩
  have RF2 : Hid (∀ W, Below w.heap.size w W → Calls Tryz.prog 9 #[cmV (.slice pa c.ps.length pc) (.slice ka c.ks.length kc) c] W fun e w' => ∃ p2 k2, e = .returned (cmV p2 k2 c) ∧ PcI w' p2 c.ps ∧ PkI w' k2 c.ks ∧ Below W.heap.size W w') := fun W hW => (cref_any _ _ c W (hp.next hW) (hk.next hW) hz.pl hz.kl).mono fun e w' ⟨p2, k2, he, ho, hok, hb⟩ => ⟨p2, k2, he, ho.pcs, hok.pks, hb⟩
  have RF3 : Hid (∀ W, Below w.heap.size w W → Calls Tryz.prog 9 #[cmV (.slice pa c.ps.length pc) (.slice ka c.ks.length kc) c] W fun e w' => ∃ p2 k2, e = .returned (cmV p2 k2 c) ∧ PcI w' p2 c.ps ∧ PkI w' k2 c.ks ∧ Below W.heap.size W w') := fun W hW => (cref_any _ _ c W (hp.next hW) (hk.next hW) hz.pl hz.kl).mono fun e w' ⟨p2, k2, he, ho, hok, hb⟩ => ⟨p2, k2, he, ho.pcs, hok.pks, hb⟩
  have REN : Hid (∀ p1 k1 W, PcI W p1 c.ps → PkI W k1 c.ks → Calls Tryz.prog 8 #[cmV p1 k1 c] W fun e w' => e = .returned (.tuple #[.string (cmT c), .int .i64 (ckN c)]) ∧ Below W.heap.size W w') := fun p1 k1 W h1 h2 => rencode16_any p1 k1 c W h1 h2 hz
  have RDI : Hid (∀ p1 k1 W, PcI W p1 c.ps → PkI W k1 c.ks → Calls Tryz.prog 11 #[cmV p1 k1 c] W fun e w' => e = .returned (.tuple #[.string (dgT c), .int .i64 (ckN c)]) ∧ Below W.heap.size W w') := fun p1 k1 W h1 h2 => rdigest16_any p1 k1 c W h1 h2 hz
  have RCK : Hid (∀ p1 k1 W, PcI W p1 c.ps → PkI W k1 c.ks → Calls Tryz.prog 14 #[cmV p1 k1 c] W fun e w' => e = .returned (.int .i64 (ckN c)) ∧ Below W.heap.size W w') := fun p1 k1 W h1 h2 => rcheck16_any p1 k1 c W h1 h2 hz
  have AW : Hid (∀ W, Below w.heap.size w W → Calls Tryz.prog 12 #[] W fun e w' => e = .returned (.bool true) ∧ Below W.heap.size W w') := fun W hW => awake16 W (hm.keep (hW.keep _))
  clear hm hz hkl hp hk
  unfold cmV at *
  generalize cmT c = TT at *
  generalize ckN c = TE at *
  generalize dgT c = DG at *
  obtain ⟨kd, tk, bk, ky, id, n, sm, ps, ks⟩ := c
  simp only at *
  generalize hpn : ps.length = pn at *
  generalize hkn : ks.length = kn at *
  clear hpn hkn
  have BA := hid (below_al (Below.refl w.heap.size w) (.cells #[.int .i64 kd, .string tk, .string bk, .string ky, .int .i64 id, .int .i64 n, .string sm, .slice pa pn pc, .slice ka kn kc] 25))
  have ZC : Hid (∀ W, Below (w.alloc (.cells #[.int .i64 kd, .string tk, .string bk, .string ky, .int .i64 id, .int .i64 n, .string sm, .slice pa pn pc, .slice ka kn kc] 25)).heap.size (w.alloc (.cells #[.int .i64 kd, .string tk, .string bk, .string ky, .int .i64 id, .int .i64 n, .string sm, .slice pa pn pc, .slice ka kn kc] 25)) W → (fun w' => w'.cell? ⟨w.heap.size, 0, none⟩ = some (.int .i64 kd) ∧ w'.cell? ⟨w.heap.size, 1, none⟩ = some (.string tk) ∧ w'.cell? ⟨w.heap.size, 2, none⟩ = some (.string bk) ∧ w'.cell? ⟨w.heap.size, 3, none⟩ = some (.string ky) ∧ w'.cell? ⟨w.heap.size, 4, none⟩ = some (.int .i64 id) ∧ w'.cell? ⟨w.heap.size, 5, none⟩ = some (.int .i64 n) ∧ w'.cell? ⟨w.heap.size, 6, none⟩ = some (.string sm) ∧ w'.cell? ⟨w.heap.size, 7, none⟩ = some (.slice pa pn pc) ∧ w'.cell? ⟨w.heap.size, 8, none⟩ = some (.slice ka kn kc)) W) := fun W hW => by
    have q := (srow w [.int .i64 kd, .string tk, .string bk, .string ky, .int .i64 id, .int .i64 n, .string sm, .slice pa pn pc, .slice ka kn kc] 25).keep (hW.keep (fun _ => False)) (fun h => h)
    exact ⟨q.cellAt rfl, q.cellAt rfl, q.cellAt rfl, q.cellAt rfl, q.cellAt rfl, q.cellAt rfl, q.cellAt rfl, q.cellAt rfl, q.cellAt rfl⟩
  have B0 := hid (Below.refl (w.alloc (.cells #[.int .i64 kd, .string tk, .string bk, .string ky, .int .i64 id, .int .i64 n, .string sm, .slice pa pn pc, .slice ka kn kc] 25)).heap.size (w.alloc (.cells #[.int .i64 kd, .string tk, .string bk, .string ky, .int .i64 id, .int .i64 n, .string sm, .slice pa pn pc, .slice ka kn kc] 25)))
  have q0 : (TT.toList == TT.toList) = true := by simp
  have q1 : (DG.toList == DG.toList) = true := by simp
  have q2 : (TE == TE) = true := by simp
  obtain ⟨y0, y1, y2, y3, y4, y5, y6, y7, y8⟩ := ZC.out _ B0.out
  go_enter Tryz.func3, Tryz.ntmps3
  go_wp2_with fail
  refine (EN.out _ (below_on BA.out B0.out)).mono ?_
  rintro e v1 ⟨rfl, bb⟩
  have B1 := hid (below_on B0.out bb)
  clear EN bb B0
  clear y0 y1 y2 y3 y4 y5 y6 y7 y8
  obtain ⟨y0, y1, y2, y3, y4, y5, y6, y7, y8⟩ := ZC.out _ B1.out
  go_wp2_with fail
  refine (RF1.out _ (below_on BA.out B1.out)).mono ?_
  rintro e v2 ⟨p2, k2, rfl, i2, j2, bb⟩
  have B2 := hid (below_on B1.out bb)
  have I2 := hid i2
  have J2 := hid j2
  clear RF1 bb B1 i2 j2
  clear y0 y1 y2 y3 y4 y5 y6 y7 y8
  go_wp2_with fail
  refine (REN.out _ _ _ I2.out J2.out).mono ?_
  rintro e v3 ⟨rfl, bb⟩
  have B3 := hid (below_on B2.out bb)
  clear REN bb B2 I2 J2
  obtain ⟨y0, y1, y2, y3, y4, y5, y6, y7, y8⟩ := ZC.out _ B3.out
  go_wp2_with fail
  refine (DI.out _ (below_on BA.out B3.out)).mono ?_
  rintro e v4 ⟨rfl, bb⟩
  have B4 := hid (below_on B3.out bb)
  clear DI bb B3
  clear y0 y1 y2 y3 y4 y5 y6 y7 y8
  obtain ⟨y0, y1, y2, y3, y4, y5, y6, y7, y8⟩ := ZC.out _ B4.out
  go_wp2_with fail
  refine (RF2.out _ (below_on BA.out B4.out)).mono ?_
  rintro e v5 ⟨p5, k5, rfl, i5, j5, bb⟩
  have B5 := hid (below_on B4.out bb)
  have I5 := hid i5
  have J5 := hid j5
  clear RF2 bb B4 i5 j5
  clear y0 y1 y2 y3 y4 y5 y6 y7 y8
  go_wp2_with fail
  refine (RDI.out _ _ _ I5.out J5.out).mono ?_
  rintro e v6 ⟨rfl, bb⟩
  have B6 := hid (below_on B5.out bb)
  clear RDI bb B5 I5 J5
  obtain ⟨y0, y1, y2, y3, y4, y5, y6, y7, y8⟩ := ZC.out _ B6.out
  go_upto_region 5 with fail
  clear y0 y1 y2 y3 y4 y5 y6 y7 y8
  have D0 := hid B6.out.drew
  clear B6
  refine wp_region_held_drew (S := (fun w' => w'.cell? ⟨w.heap.size, 0, none⟩ = some (.int .i64 kd) ∧ w'.cell? ⟨w.heap.size, 1, none⟩ = some (.string tk) ∧ w'.cell? ⟨w.heap.size, 2, none⟩ = some (.string bk) ∧ w'.cell? ⟨w.heap.size, 3, none⟩ = some (.string ky) ∧ w'.cell? ⟨w.heap.size, 4, none⟩ = some (.int .i64 id) ∧ w'.cell? ⟨w.heap.size, 5, none⟩ = some (.int .i64 n) ∧ w'.cell? ⟨w.heap.size, 6, none⟩ = some (.string sm) ∧ w'.cell? ⟨w.heap.size, 7, none⟩ = some (.slice pa pn pc) ∧ w'.cell? ⟨w.heap.size, 8, none⟩ = some (.slice ka kn kc))) (by kernel_rfl) (ZC.out _ D0.out) (fun hHeld => ?_)
  refine wpAnyH_ready (rs := [0]) (by kernel_rfl) (by simp) ?_
  refine AllReadyH.cons rfl (fun K hK => ?_) AllReadyH.nil
  go_simp
  refine (AW.out _ (below_on BA.out D0.out)).mono ?_
  rintro e uD1 ⟨rfl, bq⟩
  have D1 := hid (below_on D0.out bq)
  clear bq hHeld D0 AW
  go_wp2_with fail
  refine hK.out _ _ (ZC.out _ D1.out) (fun hHeld => ?_)
  clear hK K
  try simp only [Act.put, List.getElem_toArray, List.getElem_cons_succ, List.getElem_cons_zero, List.setIfInBounds_toArray, List.set_cons_zero, List.set_cons_succ]
  refine wpAnyH_take (i := 1) (v := ?vv1) rfl (by kernel_rfl) (by kernel_rfl) (by kernel_rfl) (fun _ _ _ h => h) (Or.inl ⟨by rfl, ?hy1⟩) (by assumption) ?rest1
  case hy1 => (intro w hSw; (try dsimp only at hSw); go_simp; first | done | with_reducible rfl)
  try simp only [Act.put, List.getElem_toArray, List.getElem_cons_succ, List.getElem_cons_zero, List.setIfInBounds_toArray, List.set_cons_zero, List.set_cons_succ]
  refine wpAnyH_take (i := 2) (v := ?vv2) rfl (by kernel_rfl) (by kernel_rfl) (by kernel_rfl) (fun _ _ _ h => h) (Or.inl ⟨by rfl, ?hy2⟩) (by assumption) ?rest2
  case hy2 => (intro w hSw; (try dsimp only at hSw); go_simp; first | done | with_reducible rfl)
  try simp only [Act.put, List.getElem_toArray, List.getElem_cons_succ, List.getElem_cons_zero, List.setIfInBounds_toArray, List.set_cons_zero, List.set_cons_succ]
  refine wpAnyH_take (i := 4) (v := ?vv3) rfl (by kernel_rfl) (by kernel_rfl) (by kernel_rfl) (fun _ _ _ h => h) (Or.inl ⟨by rfl, ?hy3⟩) (by assumption) ?rest3
  case hy3 => (intro w hSw; (try dsimp only at hSw); go_simp; first | done | with_reducible rfl)
  try simp only [Act.put, List.getElem_toArray, List.getElem_cons_succ, List.getElem_cons_zero, List.setIfInBounds_toArray, List.set_cons_zero, List.set_cons_succ]
  refine wpAnyH_ready (rs := [3]) (by kernel_rfl) (by simp) ?_
  refine AllReadyH.cons rfl (fun K hK => ?_) AllReadyH.nil
  go_simp
  refine (CK.out _ (below_on BA.out D1.out)).mono ?_
  rintro e uD2 ⟨rfl, bq⟩
  have D2 := hid (below_on D1.out bq)
  clear bq hHeld D1 CK
  go_wp2_with fail
  refine hK.out _ _ (ZC.out _ D2.out) (fun hHeld => ?_)
  clear hK K
  try simp only [Act.put, List.getElem_toArray, List.getElem_cons_succ, List.getElem_cons_zero, List.setIfInBounds_toArray, List.set_cons_zero, List.set_cons_succ]
  refine wpAnyH_ready (rs := [5]) (by kernel_rfl) (by simp) ?_
  refine AllReadyH.cons rfl (fun K hK => ?_) AllReadyH.nil
  go_simp
  refine (RF3.out _ (below_on BA.out D2.out)).mono ?_
  rintro e uD3 ⟨p9, k9, rfl, i9, j9, bq⟩
  have D3 := hid (below_on D2.out bq)
  have I9 := hid i9
  have J9 := hid j9
  clear bq hHeld D2 RF3 i9 j9
  go_wp2_with fail
  refine hK.out _ _ (ZC.out _ D3.out) (fun hHeld => ?_)
  clear hK K
  try simp only [Act.put, List.getElem_toArray, List.getElem_cons_succ, List.getElem_cons_zero, List.setIfInBounds_toArray, List.set_cons_zero, List.set_cons_succ]
  refine wpAnyH_ready (rs := [6]) (by kernel_rfl) (by simp) ?_
  refine AllReadyH.cons rfl (fun K hK => ?_) AllReadyH.nil
  go_simp
  refine (RCK.out _ _ _ I9.out J9.out).mono ?_
  rintro e uD4 ⟨rfl, bq⟩
  have D4 := hid (below_on D3.out bq)
  clear bq hHeld D3 RCK I9 J9
  go_wp2_with fail
  refine hK.out _ _ (ZC.out _ D4.out) (fun hHeld => ?_)
  clear hK K
  try simp only [Act.put, List.getElem_toArray, List.getElem_cons_succ, List.getElem_cons_zero, List.setIfInBounds_toArray, List.set_cons_zero, List.set_cons_succ]
  refine wpAnyH_take (i := 7) (v := ?vv4) rfl (by kernel_rfl) (by kernel_rfl) (by kernel_rfl) (fun _ _ _ h => h) (Or.inl ⟨by rfl, ?hy4⟩) (by assumption) ?rest4
  case hy4 => (intro w hSw; (try dsimp only at hSw); go_simp; first | done | with_reducible rfl)
  try simp only [Act.put, List.getElem_toArray, List.getElem_cons_succ, List.getElem_cons_zero, List.setIfInBounds_toArray, List.set_cons_zero, List.set_cons_succ]
  refine wpAnyH_take (i := 8) (v := ?vv5) rfl (by kernel_rfl) (by kernel_rfl) (by kernel_rfl) (fun _ _ _ h => h) (Or.inl ⟨by rfl, ?hy5⟩) (by assumption) ?rest5
  case hy5 => (intro w hSw; (try dsimp only at hSw); go_simp; first | done | with_reducible rfl)
  try simp only [Act.put, List.getElem_toArray, List.getElem_cons_succ, List.getElem_cons_zero, List.setIfInBounds_toArray, List.set_cons_zero, List.set_cons_succ]
  refine wpAnyH_take (i := 9) (v := ?vv6) rfl (by kernel_rfl) (by kernel_rfl) (by kernel_rfl) (fun _ _ _ h => h) (Or.inl ⟨by rfl, ?hy6⟩) (by assumption) ?rest6
  case hy6 => (intro w hSw; (try dsimp only at hSw); go_simp; first | done | with_reducible rfl)
  try simp only [Act.put, List.getElem_toArray, List.getElem_cons_succ, List.getElem_cons_zero, List.setIfInBounds_toArray, List.set_cons_zero, List.set_cons_succ]
  refine wpAnyH_take (i := 10) (v := ?vv7) rfl (by kernel_rfl) (by kernel_rfl) (by kernel_rfl) (fun _ _ _ h => h) (Or.inl ⟨by rfl, ?hy7⟩) (by assumption) ?rest7
  case hy7 => (intro w hSw; (try dsimp only at hSw); go_simp; first | done | with_reducible rfl)
  try simp only [Act.put, List.getElem_toArray, List.getElem_cons_succ, List.getElem_cons_zero, List.setIfInBounds_toArray, List.set_cons_zero, List.set_cons_succ]
  refine wpAnyH_take (i := 11) (v := ?vv8) rfl (by kernel_rfl) (by kernel_rfl) (by kernel_rfl) (fun _ _ _ h => h) (Or.inl ⟨by rfl, ?hy8⟩) (by assumption) ?rest8
  case hy8 => (intro w hSw; (try dsimp only at hSw); go_simp; first | done | with_reducible rfl)
  try simp only [Act.put, List.getElem_toArray, List.getElem_cons_succ, List.getElem_cons_zero, List.setIfInBounds_toArray, List.set_cons_zero, List.set_cons_succ]
  refine wpAnyH_take (i := 12) (v := ?vv9) rfl (by kernel_rfl) (by kernel_rfl) (by kernel_rfl) (fun _ _ _ h => h) (Or.inl ⟨by rfl, ?hy9⟩) (by assumption) ?rest9
  case hy9 => (intro w hSw; (try dsimp only at hSw); go_simp; first | done | with_reducible rfl)
  try simp only [Act.put, List.getElem_toArray, List.getElem_cons_succ, List.getElem_cons_zero, List.setIfInBounds_toArray, List.set_cons_zero, List.set_cons_succ]
  refine wpAnyH_take (i := 13) (v := ?vv10) rfl (by kernel_rfl) (by kernel_rfl) (by kernel_rfl) (fun _ _ _ h => h) (Or.inl ⟨by rfl, ?hy10⟩) (by assumption) ?rest10
  case hy10 => (intro w hSw; (try dsimp only at hSw); go_simp; first | done | with_reducible rfl)
  try simp only [Act.put, List.getElem_toArray, List.getElem_cons_succ, List.getElem_cons_zero, List.setIfInBounds_toArray, List.set_cons_zero, List.set_cons_succ]
  refine wpAnyH_take (i := 14) (v := ?vv11) rfl (by kernel_rfl) (by kernel_rfl) (by kernel_rfl) (fun _ _ _ h => h) (Or.inl ⟨by rfl, ?hy11⟩) (by assumption) ?rest11
  case hy11 => (intro w hSw; (try dsimp only at hSw); go_simp; first | done | with_reducible rfl)
  try simp only [Act.put, List.getElem_toArray, List.getElem_cons_succ, List.getElem_cons_zero, List.setIfInBounds_toArray, List.set_cons_zero, List.set_cons_succ]
  refine wpAnyH_take (i := 15) (v := ?vv12) rfl (by kernel_rfl) (by kernel_rfl) (by kernel_rfl) (fun _ _ _ h => h) (Or.inl ⟨by rfl, ?hy12⟩) (by assumption) ?rest12
  case hy12 => (intro w hSw; (try dsimp only at hSw); go_simp; first | done | with_reducible rfl)
  try simp only [Act.put, List.getElem_toArray, List.getElem_cons_succ, List.getElem_cons_zero, List.setIfInBounds_toArray, List.set_cons_zero, List.set_cons_succ]
  refine wpAnyH_take (i := 16) (v := ?vv13) rfl (by kernel_rfl) (by kernel_rfl) (by kernel_rfl) (fun _ _ _ h => h) (Or.inl ⟨by rfl, ?hy13⟩) (by assumption) ?rest13
  case hy13 => (intro w hSw; (try dsimp only at hSw); go_simp; first | done | with_reducible rfl)
  try simp only [Act.put, List.getElem_toArray, List.getElem_cons_succ, List.getElem_cons_zero, List.setIfInBounds_toArray, List.set_cons_zero, List.set_cons_succ]
  refine wpAnyH_take (i := 17) (v := ?vv14) rfl (by kernel_rfl) (by kernel_rfl) (by kernel_rfl) (fun _ _ _ h => h) (Or.inl ⟨by rfl, ?hy14⟩) (by assumption) ?rest14
  case hy14 => (intro w hSw; (try dsimp only at hSw); go_simp; first | done | with_reducible rfl)
  try simp only [Act.put, List.getElem_toArray, List.getElem_cons_succ, List.getElem_cons_zero, List.setIfInBounds_toArray, List.set_cons_zero, List.set_cons_succ]
  refine wpAnyH_take (i := 18) (v := ?vv15) rfl (by kernel_rfl) (by kernel_rfl) (by kernel_rfl) (fun _ _ _ h => h) (Or.inl ⟨by rfl, ?hy15⟩) (by assumption) ?rest15
  case hy15 => (intro w hSw; (try dsimp only at hSw); go_simp; first | done | with_reducible rfl)
  try simp only [Act.put, List.getElem_toArray, List.getElem_cons_succ, List.getElem_cons_zero, List.setIfInBounds_toArray, List.set_cons_zero, List.set_cons_succ]
  refine wpAnyH_take (i := 19) (v := ?vv16) rfl (by kernel_rfl) (by kernel_rfl) (by kernel_rfl) (fun _ _ _ h => h) (Or.inl ⟨by rfl, ?hy16⟩) (by assumption) ?rest16
  case hy16 => (intro w hSw; (try dsimp only at hSw); go_simp; first | done | with_reducible rfl)
  try simp only [Act.put, List.getElem_toArray, List.getElem_cons_succ, List.getElem_cons_zero, List.setIfInBounds_toArray, List.set_cons_zero, List.set_cons_succ]
  refine wpAnyH_take (i := 20) (v := ?vv17) rfl (by kernel_rfl) (by kernel_rfl) (by kernel_rfl) (fun _ _ _ h => h) (Or.inl ⟨by rfl, ?hy17⟩) (by assumption) ?rest17
  case hy17 => (intro w hSw; (try dsimp only at hSw); go_simp; first | done | with_reducible rfl)
  try simp only [Act.put, List.getElem_toArray, List.getElem_cons_succ, List.getElem_cons_zero, List.setIfInBounds_toArray, List.set_cons_zero, List.set_cons_succ]
  refine wpAnyH_take (i := 21) (v := ?vv18) rfl (by kernel_rfl) (by kernel_rfl) (by kernel_rfl) (fun _ _ _ h => h) (Or.inl ⟨by rfl, ?hy18⟩) (by assumption) ?rest18
  case hy18 => (intro w hSw; (try dsimp only at hSw); go_simp; first | done | with_reducible rfl)
  try simp only [Act.put, List.getElem_toArray, List.getElem_cons_succ, List.getElem_cons_zero, List.setIfInBounds_toArray, List.set_cons_zero, List.set_cons_succ]
  refine wpAnyH_take (i := 22) (v := ?vv19) rfl (by kernel_rfl) (by kernel_rfl) (by kernel_rfl) (fun _ _ _ h => h) (Or.inl ⟨by rfl, ?hy19⟩) (by assumption) ?rest19
  case hy19 => (intro w hSw; (try dsimp only at hSw); go_simp; first | done | with_reducible rfl)
  try simp only [Act.put, List.getElem_toArray, List.getElem_cons_succ, List.getElem_cons_zero, List.setIfInBounds_toArray, List.set_cons_zero, List.set_cons_succ]
  refine wpAnyH_take (i := 23) (v := ?vv20) rfl (by kernel_rfl) (by kernel_rfl) (by kernel_rfl) (fun _ _ _ h => h) (Or.inl ⟨by rfl, ?hy20⟩) (by assumption) ?rest20
  case hy20 => (intro w hSw; (try dsimp only at hSw); go_simp; first | done | with_reducible rfl)
  try simp only [Act.put, List.getElem_toArray, List.getElem_cons_succ, List.getElem_cons_zero, List.setIfInBounds_toArray, List.set_cons_zero, List.set_cons_succ]
  refine wpAnyH_take (i := 24) (v := ?vv21) rfl (by kernel_rfl) (by kernel_rfl) (by kernel_rfl) (fun _ _ _ h => h) (Or.inl ⟨by rfl, ?hy21⟩) (by assumption) ?rest21
  case hy21 => (intro w hSw; (try dsimp only at hSw); go_simp; first | done | with_reducible rfl)
  try simp only [Act.put, List.getElem_toArray, List.getElem_cons_succ, List.getElem_cons_zero, List.setIfInBounds_toArray, List.set_cons_zero, List.set_cons_succ]
  refine wpAnyH_take (i := 25) (v := ?vv22) rfl (by kernel_rfl) (by kernel_rfl) (by kernel_rfl) (fun _ _ _ h => h) (Or.inl ⟨by rfl, ?hy22⟩) (by assumption) ?rest22
  case hy22 => (intro w hSw; (try dsimp only at hSw); go_simp; first | done | with_reducible rfl)
  try simp only [Act.put, List.getElem_toArray, List.getElem_cons_succ, List.getElem_cons_zero, List.setIfInBounds_toArray, List.set_cons_zero, List.set_cons_succ]
  refine wpAnyH_take (i := 26) (v := ?vv23) rfl (by kernel_rfl) (by kernel_rfl) (by kernel_rfl) (fun _ _ _ h => h) (Or.inl ⟨by rfl, ?hy23⟩) (by assumption) ?rest23
  case hy23 => (intro w hSw; (try dsimp only at hSw); go_simp; first | done | with_reducible rfl)
  try simp only [Act.put, List.getElem_toArray, List.getElem_cons_succ, List.getElem_cons_zero, List.setIfInBounds_toArray, List.set_cons_zero, List.set_cons_succ]
  refine wpAnyH_take (i := 27) (v := ?vv24) rfl (by kernel_rfl) (by kernel_rfl) (by kernel_rfl) (fun _ _ _ h => h) (Or.inl ⟨by rfl, ?hy24⟩) (by assumption) ?rest24
  case hy24 => (intro w hSw; (try dsimp only at hSw); go_simp; first | done | with_reducible rfl)
  try simp only [Act.put, List.getElem_toArray, List.getElem_cons_succ, List.getElem_cons_zero, List.setIfInBounds_toArray, List.set_cons_zero, List.set_cons_succ]
  refine wpAnyH_take (i := 28) (v := ?vv25) rfl (by kernel_rfl) (by kernel_rfl) (by kernel_rfl) (fun _ _ _ h => h) (Or.inl ⟨by rfl, ?hy25⟩) (by assumption) ?rest25
  case hy25 => (intro w hSw; (try dsimp only at hSw); go_simp; first | done | with_reducible rfl)
  try simp only [Act.put, List.getElem_toArray, List.getElem_cons_succ, List.getElem_cons_zero, List.setIfInBounds_toArray, List.set_cons_zero, List.set_cons_succ]
  refine wpAnyH_take (i := 29) (v := ?vv26) rfl (by kernel_rfl) (by kernel_rfl) (by kernel_rfl) (fun _ _ _ h => h) (Or.inl ⟨by rfl, ?hy26⟩) (by assumption) ?rest26
  case hy26 => (intro w hSw; (try dsimp only at hSw); go_simp; first | done | with_reducible rfl)
  try simp only [Act.put, List.getElem_toArray, List.getElem_cons_succ, List.getElem_cons_zero, List.setIfInBounds_toArray, List.set_cons_zero, List.set_cons_succ]
  refine wpAnyH_done (by kernel_rfl) ?_ _
  clear hHeld ZC
  go_wp2
  go_ret
  exact ⟨rfl, below_on BA.out D4.out⟩
end Go.Proofs.YtmadlnchmkhdjaaGreat
