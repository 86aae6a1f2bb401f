/- The program's Check, Encode and Digest of a command. -/
import Derived.Test.YtmadlnchmkhdjaaGreatJoined10
import Derived.Test.YtmadlnchmkhdjaaGreatJoined11
import Derived.Test.YtmadlnchmkhdjaaGreatCmT
import Derived.Test.YtmadlnchmkhdjaaGreatJoined22
namespace Go.Proofs.YtmadlnchmkhdjaaGreat
open Go.RowKit Go.Maps
set_option linter.unusedVariables false
set_option linter.unusedSimpArgs false

def ckN (c : Cm) : Int := if cmOk c = true then 0 else 1
set_option maxRecDepth 100000 in
set_option maxHeartbeats 4000000 in
theorem ccheck_any (pv kv : Value) (c : Cm) (w : World) (hp : PcI w pv c.ps) (hk : PkI w kv c.ks) (hl : c.ks.length ≤ 8796093022208) (hm : MaxL w) : Calls Tryz.prog 13 #[cmV pv kv c] w fun e w' => e = .returned (.int .i64 (ckN c)) ∧ Below w.heap.size w w' := by
  obtain ⟨pa, pc, rfl, -⟩ := hp.form
  obtain ⟨ka, kc, rfl, -⟩ := hk.form
  have FO := hid (fun W => fieldsOf_any c.kd W)
  unfold ckN cmOk
  generalize hfl : flN c.kd = h at *
  unfold cmV
  obtain ⟨kd, tk, bk, ky, id, n, sm, ps, ks⟩ := c
  simp only at *
  generalize hpn : ps.length = pn at *
  generalize hkn : ks.length = kn at *
  have NF : Hid (∀ W, Below w.heap.size w W → Calls Tryz.prog 30 #[.agg #[.int .i64 kd, .string tk, .string bk, .string ky, .int .i64 id, .int .i64 n, .string sm, .slice pa pn pc, .slice ka kn kc], .int .u64 h] W fun e w' => e = .returned (.bool (nfB h tk bk ky)) ∧ Below W.heap.size W w') := fun W hW => namesFit_any kd id n h tk bk ky sm pa ka pn pc kn kc W (hm.keep (hW.keep _))
  have NU : Hid (∀ W, Below w.heap.size w W → Calls Tryz.prog 31 #[.agg #[.int .i64 kd, .string tk, .string bk, .string ky, .int .i64 id, .int .i64 n, .string sm, .slice pa pn pc, .slice ka kn kc], .int .u64 h] W fun e w' => e = .returned (.bool (nuB h kd id n)) ∧ Below W.heap.size W w') := fun W hW => numbersFit_any kd id n h tk bk ky sm pa ka pn pc kn kc W
  have DF : Hid (∀ W, Below w.heap.size w W → Calls Tryz.prog 32 #[.agg #[.int .i64 kd, .string tk, .string bk, .string ky, .int .i64 id, .int .i64 n, .string sm, .slice pa pn pc, .slice ka kn kc], .int .u64 h] W fun e w' => e = .returned (.bool (dfB h sm ps ks)) ∧ Below W.heap.size W w') := fun W hW => by
    have := digestsFit_any kd id n h tk bk ky sm pa ka pc kc ps ks W (by rw [hpn]; exact hp.next hW) (by rw [hkn]; exact hk.next hW) (by omega)
    rwa [hpn, hkn] at this
  generalize nfB h tk bk ky = r1 at *
  generalize nuB h kd id n = r2 at *
  generalize dfB h sm ps ks = r3 at *
  clear hp hk hl hm hpn hkn hfl
  have ZC0 := hid (srow w [.int .i64 kd, .string tk, .string bk, .string ky, .int .i64 id, .int .i64 n, .string sm, .slice pa pn pc, .slice ka kn kc] 25)
  have BA := hid (below_al (Below.refl w.heap.size w) (.cells #[.int .i64 kd, .string tk, .string bk, .string ky, .int .i64 id, .int .i64 n, .string sm, .slice pa pn pc, .slice ka kn kc] 25))
  have BX : Hid (∀ W, Below (w.alloc (.cells #[.int .i64 kd, .string tk, .string bk, .string ky, .int .i64 id, .int .i64 n, .string sm, .slice pa pn pc, .slice ka kn kc] 25)).heap.size (w.alloc (.cells #[.int .i64 kd, .string tk, .string bk, .string ky, .int .i64 id, .int .i64 n, .string sm, .slice pa pn pc, .slice ka kn kc] 25)) W → W.cell? ⟨w.heap.size, 0, none⟩ = some (.int .i64 kd) ∧ W.cell? ⟨w.heap.size, 1, none⟩ = some (.string tk) ∧ W.cell? ⟨w.heap.size, 2, none⟩ = some (.string bk) ∧ W.cell? ⟨w.heap.size, 3, none⟩ = some (.string ky) ∧ W.cell? ⟨w.heap.size, 4, none⟩ = some (.int .i64 id) ∧ W.cell? ⟨w.heap.size, 5, none⟩ = some (.int .i64 n) ∧ W.cell? ⟨w.heap.size, 6, none⟩ = some (.string sm) ∧ W.cell? ⟨w.heap.size, 7, none⟩ = some (.slice pa pn pc) ∧ W.cell? ⟨w.heap.size, 8, none⟩ = some (.slice ka kn kc)) := fun W hW => by
    have q := ZC0.out.keep (hW.keep (fun _ => False)) (fun h => h)
    exact ⟨q.cellAt rfl, q.cellAt rfl, q.cellAt rfl, q.cellAt rfl, q.cellAt rfl, q.cellAt rfl, q.cellAt rfl, q.cellAt rfl, q.cellAt rfl⟩
  clear ZC0
  by_cases hh : h = 0
  · subst hh
    clear NF NU DF BX
    go_enter Tryz.func13, Tryz.ntmps13
    go_wp2_with fail
    refine (FO.out _).mono ?_
    rintro e w1 ⟨rfl, rfl⟩
    go_wp2
    go_ret
    exact ⟨by simp, BA.out⟩
  · have hq : (h == 0) = false := beq_eq_false_iff_ne.2 hh
    have hd : decide (h = 0) = false := decide_eq_false hh
    rw [hd]
    clear hh hd
    cases r1
    · go_enter Tryz.func13, Tryz.ntmps13
      go_wp2_with fail
      refine (FO.out _).mono ?_
      rintro e w1 ⟨rfl, rfl⟩
      clear FO
      have B0 := hid (Below.refl (w.alloc (.cells #[.int .i64 kd, .string tk, .string bk, .string ky, .int .i64 id, .int .i64 n, .string sm, .slice pa pn pc, .slice ka kn kc] 25)).heap.size (w.alloc (.cells #[.int .i64 kd, .string tk, .string bk, .string ky, .int .i64 id, .int .i64 n, .string sm, .slice pa pn pc, .slice ka kn kc] 25)))
      obtain ⟨c0, c1, c2, c3, c4, c5, c6, c7, c8⟩ := BX.out _ B0.out
      go_wp2_with fail
      refine (NF.out _ (below_on BA.out B0.out)).mono ?_
      rintro e v0 ⟨rfl, bb⟩
      have B1 := hid (below_on B0.out bb)
      clear bb c0 c1 c2 c3 c4 c5 c6 c7 c8 NF
      go_wp2
      go_ret
      exact ⟨by simp, below_on BA.out B1.out⟩
    · cases r2
      · go_enter Tryz.func13, Tryz.ntmps13
        go_wp2_with fail
        refine (FO.out _).mono ?_
        rintro e w1 ⟨rfl, rfl⟩
        clear FO
        have B0 := hid (Below.refl (w.alloc (.cells #[.int .i64 kd, .string tk, .string bk, .string ky, .int .i64 id, .int .i64 n, .string sm, .slice pa pn pc, .slice ka kn kc] 25)).heap.size (w.alloc (.cells #[.int .i64 kd, .string tk, .string bk, .string ky, .int .i64 id, .int .i64 n, .string sm, .slice pa pn pc, .slice ka kn kc] 25)))
        obtain ⟨c0, c1, c2, c3, c4, c5, c6, c7, c8⟩ := BX.out _ B0.out
        go_wp2_with fail
        refine (NF.out _ (below_on BA.out B0.out)).mono ?_
        rintro e v0 ⟨rfl, bb⟩
        have B1 := hid (below_on B0.out bb)
        clear bb c0 c1 c2 c3 c4 c5 c6 c7 c8 NF
        obtain ⟨c0, c1, c2, c3, c4, c5, c6, c7, c8⟩ := BX.out _ B1.out
        go_wp2_with fail
        refine (NU.out _ (below_on BA.out B1.out)).mono ?_
        rintro e v1 ⟨rfl, bb⟩
        have B2 := hid (below_on B1.out bb)
        clear bb c0 c1 c2 c3 c4 c5 c6 c7 c8 NU
        go_wp2
        go_ret
        exact ⟨by simp, below_on BA.out B2.out⟩
      · cases r3
        · go_enter Tryz.func13, Tryz.ntmps13
          go_wp2_with fail
          refine (FO.out _).mono ?_
          rintro e w1 ⟨rfl, rfl⟩
          clear FO
          have B0 := hid (Below.refl (w.alloc (.cells #[.int .i64 kd, .string tk, .string bk, .string ky, .int .i64 id, .int .i64 n, .string sm, .slice pa pn pc, .slice ka kn kc] 25)).heap.size (w.alloc (.cells #[.int .i64 kd, .string tk, .string bk, .string ky, .int .i64 id, .int .i64 n, .string sm, .slice pa pn pc, .slice ka kn kc] 25)))
          obtain ⟨c0, c1, c2, c3, c4, c5, c6, c7, c8⟩ := BX.out _ B0.out
          go_wp2_with fail
          refine (NF.out _ (below_on BA.out B0.out)).mono ?_
          rintro e v0 ⟨rfl, bb⟩
          have B1 := hid (below_on B0.out bb)
          clear bb c0 c1 c2 c3 c4 c5 c6 c7 c8 NF
          obtain ⟨c0, c1, c2, c3, c4, c5, c6, c7, c8⟩ := BX.out _ B1.out
          go_wp2_with fail
          refine (NU.out _ (below_on BA.out B1.out)).mono ?_
          rintro e v1 ⟨rfl, bb⟩
          have B2 := hid (below_on B1.out bb)
          clear bb c0 c1 c2 c3 c4 c5 c6 c7 c8 NU
          obtain ⟨c0, c1, c2, c3, c4, c5, c6, c7, c8⟩ := BX.out _ B2.out
          go_wp2_with fail
          refine (DF.out _ (below_on BA.out B2.out)).mono ?_
          rintro e v2 ⟨rfl, bb⟩
          have B3 := hid (below_on B2.out bb)
          clear bb c0 c1 c2 c3 c4 c5 c6 c7 c8 DF
          go_wp2
          go_ret
          exact ⟨by simp, below_on BA.out B3.out⟩
        · go_enter Tryz.func13, Tryz.ntmps13
          go_wp2_with fail
          refine (FO.out _).mono ?_
          rintro e w1 ⟨rfl, rfl⟩
          clear FO
          have B0 := hid (Below.refl (w.alloc (.cells #[.int .i64 kd, .string tk, .string bk, .string ky, .int .i64 id, .int .i64 n, .string sm, .slice pa pn pc, .slice ka kn kc] 25)).heap.size (w.alloc (.cells #[.int .i64 kd, .string tk, .string bk, .string ky, .int .i64 id, .int .i64 n, .string sm, .slice pa pn pc, .slice ka kn kc] 25)))
          obtain ⟨c0, c1, c2, c3, c4, c5, c6, c7, c8⟩ := BX.out _ B0.out
          go_wp2_with fail
          refine (NF.out _ (below_on BA.out B0.out)).mono ?_
          rintro e v0 ⟨rfl, bb⟩
          have B1 := hid (below_on B0.out bb)
          clear bb c0 c1 c2 c3 c4 c5 c6 c7 c8 NF
          obtain ⟨c0, c1, c2, c3, c4, c5, c6, c7, c8⟩ := BX.out _ B1.out
          go_wp2_with fail
          refine (NU.out _ (below_on BA.out B1.out)).mono ?_
          rintro e v1 ⟨rfl, bb⟩
          have B2 := hid (below_on B1.out bb)
          clear bb c0 c1 c2 c3 c4 c5 c6 c7 c8 NU
          obtain ⟨c0, c1, c2, c3, c4, c5, c6, c7, c8⟩ := BX.out _ B2.out
          go_wp2_with fail
          refine (DF.out _ (below_on BA.out B2.out)).mono ?_
          rintro e v2 ⟨rfl, bb⟩
          have B3 := hid (below_on B2.out bb)
          clear bb c0 c1 c2 c3 c4 c5 c6 c7 c8 DF
          go_wp2
          go_ret
          exact ⟨by simp, below_on BA.out B3.out⟩
def cmT (c : Cm) : ByteArray := if cmOk c = true then ⟨(cmB c).toArray⟩ else ⟨#[]⟩
set_option maxRecDepth 100000 in
set_option maxHeartbeats 4000000 in
theorem cencode_any (pv kv : Value) (c : Cm) (w : World) (hp : PcI w pv c.ps) (hk : PkI w kv c.ks) (hl : c.ks.length ≤ 8796093022208) (hm : MaxL w) : Calls Tryz.prog 7 #[cmV pv kv c] w fun e w' => e = .returned (.tuple #[.string (cmT c), .int .i64 (ckN c)]) ∧ Below w.heap.size w w' := by
  obtain ⟨pa, pc, rfl, -⟩ := hp.form
  obtain ⟨ka, kc, rfl, -⟩ := hk.form
  have CK : Hid (∀ W, Below w.heap.size w W → Calls Tryz.prog 13 #[cmV (.slice pa c.ps.length pc) (.slice ka c.ks.length kc) c] W fun e w' => e = .returned (.int .i64 (ckN c)) ∧ Below W.heap.size W w') := fun W hW => ccheck_any _ _ c W (hp.next hW) (hk.next hW) hl (hm.keep (hW.keep _))
  have TX : Hid (cmOk c = true → ∀ W, Below w.heap.size w W → Calls Tryz.prog 22 #[cmV (.slice pa c.ps.length pc) (.slice ka c.ks.length kc) c] W fun e w' => e = .returned (.string ⟨(cmB c).toArray⟩) ∧ Below W.heap.size W w') := fun ho W hW => ctext_any _ _ c W (hp.next hW) (hk.next hW) (cm_bd ho)
  unfold cmT
  unfold ckN at *
  clear hp hk hl hm
  generalize cmB c = R at *
  generalize cmOk c = ok at *
  unfold cmV at *
  obtain ⟨kd, tk, bk, ky, id, n, sm, ps, ks⟩ := c
  simp only at *
  generalize ps.length = pn at *
  generalize ks.length = kn at *
  have ZC0 := hid (srow w [.int .i64 kd, .string tk, .string bk, .string ky, .int .i64 id, .int .i64 n, .string sm, .slice pa pn pc, .slice ka kn kc] 25)
  have BA := hid (below_al (Below.refl w.heap.size w) (.cells #[.int .i64 kd, .string tk, .string bk, .string ky, .int .i64 id, .int .i64 n, .string sm, .slice pa pn pc, .slice ka kn kc] 25))
  have BX : Hid (∀ W, Below (w.alloc (.cells #[.int .i64 kd, .string tk, .string bk, .string ky, .int .i64 id, .int .i64 n, .string sm, .slice pa pn pc, .slice ka kn kc] 25)).heap.size (w.alloc (.cells #[.int .i64 kd, .string tk, .string bk, .string ky, .int .i64 id, .int .i64 n, .string sm, .slice pa pn pc, .slice ka kn kc] 25)) W → W.cell? ⟨w.heap.size, 0, none⟩ = some (.int .i64 kd) ∧ W.cell? ⟨w.heap.size, 1, none⟩ = some (.string tk) ∧ W.cell? ⟨w.heap.size, 2, none⟩ = some (.string bk) ∧ W.cell? ⟨w.heap.size, 3, none⟩ = some (.string ky) ∧ W.cell? ⟨w.heap.size, 4, none⟩ = some (.int .i64 id) ∧ W.cell? ⟨w.heap.size, 5, none⟩ = some (.int .i64 n) ∧ W.cell? ⟨w.heap.size, 6, none⟩ = some (.string sm) ∧ W.cell? ⟨w.heap.size, 7, none⟩ = some (.slice pa pn pc) ∧ W.cell? ⟨w.heap.size, 8, none⟩ = some (.slice ka kn kc)) := fun W hW => by
    have q := ZC0.out.keep (hW.keep (fun _ => False)) (fun h => h)
    exact ⟨q.cellAt rfl, q.cellAt rfl, q.cellAt rfl, q.cellAt rfl, q.cellAt rfl, q.cellAt rfl, q.cellAt rfl, q.cellAt rfl, q.cellAt rfl⟩
  clear ZC0
  have B0 := hid (Below.refl (w.alloc (.cells #[.int .i64 kd, .string tk, .string bk, .string ky, .int .i64 id, .int .i64 n, .string sm, .slice pa pn pc, .slice ka kn kc] 25)).heap.size (w.alloc (.cells #[.int .i64 kd, .string tk, .string bk, .string ky, .int .i64 id, .int .i64 n, .string sm, .slice pa pn pc, .slice ka kn kc] 25)))
  obtain ⟨c0, c1, c2, c3, c4, c5, c6, c7, c8⟩ := BX.out _ B0.out
  cases ok
  · go_enter Tryz.func7, Tryz.ntmps7
    go_wp2_with fail
    refine (CK.out _ (below_on BA.out B0.out)).mono ?_
    rintro e w1 ⟨rfl, b1⟩
    have B1 := hid (below_on BA.out b1)
    clear TX CK BX b1 c0 c1 c2 c3 c4 c5 c6 c7 c8
    go_wp2
    go_ret2
    exact ⟨rfl, B1.out⟩
  · have TX1 := hid (TX.out rfl)
    go_enter Tryz.func7, Tryz.ntmps7
    go_wp2_with fail
    refine (CK.out _ (below_on BA.out B0.out)).mono ?_
    rintro e w1 ⟨rfl, b1⟩
    have B1 := hid b1
    clear TX CK b1 c0 c1 c2 c3 c4 c5 c6 c7 c8
    obtain ⟨c0, c1, c2, c3, c4, c5, c6, c7, c8⟩ := BX.out _ B1.out
    go_wp2_with fail
    refine (TX1.out _ (below_on BA.out B1.out)).mono ?_
    rintro e w2 ⟨rfl, b2⟩
    have B2 := hid (below_on (below_on BA.out B1.out) b2)
    clear TX1 BX b2 B1 c0 c1 c2 c3 c4 c5 c6 c7 c8
    go_wp2
    go_ret2
    exact ⟨rfl, B2.out⟩
theorem cmB_len {c : Cm} (hd : CmD c) : (cmB c).length ≤ 450000 := by
  have h1 := (put_len c.kd.toNat).2
  have h2 := ptx_len c.tk
  have h3 := (put_len c.tk.size).2
  have h4 := ptx_len c.bk
  have h5 := (put_len c.bk.size).2
  have h6 := ptx_len c.ky
  have h7 := (put_len c.ky.size).2
  have h8 := (put_len c.id.toNat).2
  have h9 := (put_len c.n.toNat).2
  have h10 := ptx_len c.sm
  have h11 := (put_len c.sm.size).2
  have h12 := pcsB_len hd.ps hd.pl
  have h13 := pksB_len hd.ks hd.kl
  have g1 := flB_len (flN c.kd) 1 (ptx c.tk)
  have g2 := flB_len (flN c.kd) 2 (ptx c.bk)
  have g3 := flB_len (flN c.kd) 4 (ptx c.ky)
  have g4 := flB_len (flN c.kd) 8 (put c.id.toNat)
  have g5 := flB_len (flN c.kd) 16 (put c.n.toNat)
  have g6 := flB_len (flN c.kd) 32 (ptx c.sm)
  have g7 := flB_len (flN c.kd) 64 (pcsB c.ps)
  have g8 := flB_len (flN c.kd) 128 (pksB c.ks)
  have t1 := hd.tk
  have t2 := hd.bk
  have t3 := hd.ky
  have t4 := hd.sm
  unfold cmB
  simp only [List.length_append]
  omega
def noT (c : Cm) : Cm := { c with tk := ⟨#[]⟩ }
def dgT (c : Cm) : ByteArray := if cmOk c = true then ⟨(hexL (sha (tld 67 [⟨(cmB (noT c)).toArray⟩]))).toArray⟩ else ⟨#[]⟩
theorem noT_bd {c : Cm} (h : CmD c) : CmD (noT c) := ⟨h.kd, by show (0 : Nat) ≤ 64; omega, h.bk, h.ky, h.id, h.n, h.sm, h.ps, h.pl, h.ks, h.kl⟩
theorem strs_one16 {w : World} (T : ByteArray) : Strs (w.alloc (.cells #[.string T] 9)) (.slice (some ⟨w.heap.size, 0, none⟩) 1 1) [T] := by
  refine .inr ⟨w.heap.size, 0, 1, rfl, by simp, fun j hj => ?_⟩
  have hj0 : j = 0 := by simpa using hj
  subst hj0
  exact (srow w [.string T] 9).cellAt rfl
set_option maxRecDepth 100000 in
set_option maxHeartbeats 4000000 in
theorem cdigest_any (pv kv : Value) (c : Cm) (w : World) (hp : PcI w pv c.ps) (hk : PkI w kv c.ks) (hl : c.ks.length ≤ 8796093022208) (hm : MaxL w) : Calls Tryz.prog 10 #[cmV pv kv c] w fun e w' => e = .returned (.tuple #[.string (dgT c), .int .i64 (ckN c)]) ∧ Below w.heap.size w w' := by
  obtain ⟨pa, pc, rfl, -⟩ := hp.form
  obtain ⟨ka, kc, rfl, -⟩ := hk.form
  have CK : Hid (∀ W, Below w.heap.size w W → Calls Tryz.prog 13 #[cmV (.slice pa c.ps.length pc) (.slice ka c.ks.length kc) c] W fun e w' => e = .returned (.int .i64 (ckN c)) ∧ Below W.heap.size W w') := fun W hW => ccheck_any _ _ c W (hp.next hW) (hk.next hW) hl (hm.keep (hW.keep _))
  have TX : Hid (cmOk c = true → ∀ W, Below w.heap.size w W → Calls Tryz.prog 22 #[cmV (.slice pa c.ps.length pc) (.slice ka c.ks.length kc) (noT c)] W fun e w' => e = .returned (.string ⟨(cmB (noT c)).toArray⟩) ∧ Below W.heap.size W w') := fun ho W hW => ctext_any _ _ (noT c) W (hp.next hW) (hk.next hW) (noT_bd (cm_bd ho))
  have TG : Hid (cmOk c = true → ∀ W : World, Calls Tryz.prog 26 #[.int .u8 67, .slice (some ⟨W.heap.size, 0, none⟩) 1 1] (W.alloc (.cells #[.string ⟨(cmB (noT c)).toArray⟩] 9)) fun e w' => e = .returned (.string ⟨(sha (tld 67 [⟨(cmB (noT c)).toArray⟩])).toArray⟩) ∧ Below (W.heap.size + 1) (W.alloc (.cells #[.string ⟨(cmB (noT c)).toArray⟩] 9)) w') := fun ho W => by
    have hz := cmB_len (noT_bd (cm_bd ho))
    have := tagged_any 67 _ [⟨(cmB (noT c)).toArray⟩] (W.alloc (.cells #[.string ⟨(cmB (noT c)).toArray⟩] 9)) (strs_one16 _) (by show (List.map _ [_]).sum ≤ _; simp; show (cmB (noT c)).toArray.size ≤ _; simp; omega)
    rw [show (W.alloc (.cells #[.string ⟨(cmB (noT c)).toArray⟩] 9)).heap.size = W.heap.size + 1 from by simp] at this
    exact this
  have HX : Hid (∀ W, Calls Tryz.prog 25 #[.string ⟨(sha (tld 67 [⟨(cmB (noT c)).toArray⟩])).toArray⟩] W fun e w' => e = .returned (.string ⟨(hexL (sha (tld 67 [⟨(cmB (noT c)).toArray⟩]))).toArray⟩) ∧ Below W.heap.size W w') := fun W => by
    have := hex_any ⟨(sha (tld 67 [⟨(cmB (noT c)).toArray⟩])).toArray⟩ W (by show (sha _).toArray.size ≤ _; simp [sha_len])
    simpa using this
  unfold dgT
  unfold ckN at *
  clear hp hk hl hm
  generalize cmB (noT c) = R at *
  generalize cmOk c = ok at *
  generalize sha (tld 67 [⟨R.toArray⟩]) = SH at *
  unfold noT at *
  unfold cmV at *
  obtain ⟨kd, tk, bk, ky, id, n, sm, ps, ks⟩ := c
  simp only at *
  generalize ps.length = pn at *
  generalize ks.length = kn at *
  have ZC0 := hid (srow w [.int .i64 kd, .string tk, .string bk, .string ky, .int .i64 id, .int .i64 n, .string sm, .slice pa pn pc, .slice ka kn kc] 25)
  have BA := hid (below_al (Below.refl w.heap.size w) (.cells #[.int .i64 kd, .string tk, .string bk, .string ky, .int .i64 id, .int .i64 n, .string sm, .slice pa pn pc, .slice ka kn kc] 25))
  have BX : Hid (∀ W, Below (w.alloc (.cells #[.int .i64 kd, .string tk, .string bk, .string ky, .int .i64 id, .int .i64 n, .string sm, .slice pa pn pc, .slice ka kn kc] 25)).heap.size (w.alloc (.cells #[.int .i64 kd, .string tk, .string bk, .string ky, .int .i64 id, .int .i64 n, .string sm, .slice pa pn pc, .slice ka kn kc] 25)) W → W.cell? ⟨w.heap.size, 0, none⟩ = some (.int .i64 kd) ∧ W.cell? ⟨w.heap.size, 1, none⟩ = some (.string tk) ∧ W.cell? ⟨w.heap.size, 2, none⟩ = some (.string bk) ∧ W.cell? ⟨w.heap.size, 3, none⟩ = some (.string ky) ∧ W.cell? ⟨w.heap.size, 4, none⟩ = some (.int .i64 id) ∧ W.cell? ⟨w.heap.size, 5, none⟩ = some (.int .i64 n) ∧ W.cell? ⟨w.heap.size, 6, none⟩ = some (.string sm) ∧ W.cell? ⟨w.heap.size, 7, none⟩ = some (.slice pa pn pc) ∧ W.cell? ⟨w.heap.size, 8, none⟩ = some (.slice ka kn kc)) := fun W hW => by
    have q := ZC0.out.keep (hW.keep (fun _ => False)) (fun h => h)
    exact ⟨q.cellAt rfl, q.cellAt rfl, q.cellAt rfl, q.cellAt rfl, q.cellAt rfl, q.cellAt rfl, q.cellAt rfl, q.cellAt rfl, q.cellAt rfl⟩
  clear ZC0
  have B0 := hid (Below.refl (w.alloc (.cells #[.int .i64 kd, .string tk, .string bk, .string ky, .int .i64 id, .int .i64 n, .string sm, .slice pa pn pc, .slice ka kn kc] 25)).heap.size (w.alloc (.cells #[.int .i64 kd, .string tk, .string bk, .string ky, .int .i64 id, .int .i64 n, .string sm, .slice pa pn pc, .slice ka kn kc] 25)))
  have RW : Hid (∀ W, Below (w.alloc (.cells #[.int .i64 kd, .string tk, .string bk, .string ky, .int .i64 id, .int .i64 n, .string sm, .slice pa pn pc, .slice ka kn kc] 25)).heap.size (w.alloc (.cells #[.int .i64 kd, .string tk, .string bk, .string ky, .int .i64 id, .int .i64 n, .string sm, .slice pa pn pc, .slice ka kn kc] 25)) W → RowIs W w.heap.size [.int .i64 kd, .string tk, .string bk, .string ky, .int .i64 id, .int .i64 n, .string sm, .slice pa pn pc, .slice ka kn kc] 25) := fun W hW => (srow w [.int .i64 kd, .string tk, .string bk, .string ky, .int .i64 id, .int .i64 n, .string sm, .slice pa pn pc, .slice ka kn kc] 25).keep (hW.keep (fun _ => False)) (fun h => h)
  obtain ⟨c0, c1, c2, c3, c4, c5, c6, c7, c8⟩ := BX.out _ B0.out
  cases ok
  · go_enter Tryz.func10, Tryz.ntmps10
    go_wp2_with fail
    refine (CK.out _ (below_on BA.out B0.out)).mono ?_
    rintro e w1 ⟨rfl, b1⟩
    have B1 := hid (below_on BA.out b1)
    clear TX CK BX b1 c0 c1 c2 c3 c4 c5 c6 c7 c8
    go_wp2
    go_ret2
    exact ⟨rfl, B1.out⟩
  · have TX1 := hid (TX.out rfl)
    have TG1 := hid (TG.out rfl)
    go_enter Tryz.func10, Tryz.ntmps10
    go_wp2_with fail
    refine (CK.out _ (below_on BA.out B0.out)).mono ?_
    rintro e w1 ⟨rfl, b1⟩
    have B1 := hid b1
    clear TX TG CK b1 c0 c1 c2 c3 c4 c5 c6 c7 c8
    obtain ⟨c0, c1, c2, c3, c4, c5, c6, c7, c8⟩ := BX.out _ B1.out
    have f1 : w1.frozen? ⟨w.heap.size, 1, none⟩ = false := (RW.out _ B1.out).frozen
    have B2 : Hid (Below w.heap.size w (w1.setCell ⟨w.heap.size, 1, none⟩ (.string ⟨#[]⟩))) := (below_on BA.out B1.out).trans (keep_below (keep_setCell w1 w.heap.size 1 (.string ⟨#[]⟩)) (fun j hj e => by omega) (below_on BA.out B1.out).size)
    clear RW BX BA B0 B1
    go_wp2_with fail
    refine (TX1.out _ B2.out).mono ?_
    rintro e w2 ⟨rfl, b2⟩
    have B3 := hid (below_on B2.out b2)
    clear TX1 b2 B2 c0 c1 c2 c3 c4 c5 c6 c7 c8 f1
    go_wp2_with fail
    refine (TG1.out w2).mono ?_
    rintro e w3 ⟨rfl, b3⟩
    have B4 := hid (below_on (below_al B3.out (.cells #[.string ⟨R.toArray⟩] 9)) (by simpa using b3))
    clear TG1 b3 B3
    go_wp2_with fail
    refine (HX.out _).mono ?_
    rintro e w4 ⟨rfl, b4⟩
    have B5 := hid (below_on B4.out b4)
    clear HX b4 B4
    go_wp2
    go_ret2
    exact ⟨rfl, B5.out⟩
end Go.Proofs.YtmadlnchmkhdjaaGreat
