/- The law ChainNewest, walked. -/
import Derived.Test.YtbiapepalkdkdaaCnP
import Derived.Test.YtbiapepalkdkdaaIBulk
import Derived.Laws.Concat
import Derived.Deep.LoopGhost
import Derived.Deep.CutRange
import Derived.Deep.RegionHeld3
import Derived.BigQuiet
import Derived.Deep.QuietTactic
namespace Go.Proofs.Ytbiapepalkdkdaa
open Go.RowKit Go.Maps
set_option linter.unusedVariables false
set_option linter.unusedSimpArgs false

theorem rlN_fd {qc qm : List (Value × Vn)} (h : RlN qc qm) {k : Nat} (hk : k < qm.length) : qm[k].2.ps.length ≤ 512 := (vnOk_ps (h.ok (List.getElem_mem hk))).1
/-- one that is found, held against what was put: the calls of the inner loop -/
theorem newest_find (w : World) (cv : Value) (qc : List (Value × Vn)) (adm : Option Addr) (cpm : Nat) (qm4 : List (Value × Vn)) (k : Nat) (hk : k < qm4.length) (bm om : Nat) (g : Nat) (av : Option Addr) (cv' : Nat) (h5 : qm4[k].2.ps.length ≤ 512)
    (hm : ∀ W, NS w cv qc (.slice adm qm4.length cpm) qm4 W → (W.cell? ⟨bm, om + k * 5, none⟩ = some (.int .i64 qm4[k].2.id) ∧ W.cell? ⟨bm, om + k * 5 + 1, none⟩ = some (.bool qm4[k].2.ma) ∧ W.cell? ⟨bm, om + k * 5 + 2, none⟩ = some (.int .i64 qm4[k].2.sz) ∧ W.cell? ⟨bm, om + k * 5 + 3, none⟩ = some (.string qm4[k].2.sum) ∧ W.cell? ⟨bm, om + k * 5 + 4, none⟩ = some qm4[k].1) ∧ PcI W qm4[k].1 qm4[k].2.ps) :
    Hid (∀ W, (NS w cv qc (.slice adm qm4.length cpm) qm4 W ∧ VB g 24 (.slice av qm4[k].2.ps.length cv') qm4[k].2 W) → Calls Try.prog 15 #[.agg #[.int .i64 qm4[k].2.id, .bool qm4[k].2.ma, .int .i64 qm4[k].2.sz, .string qm4[k].2.sum, .slice av qm4[k].2.ps.length cv']] W fun e w' => ∃ ad cap, e = .returned (.agg #[.int .i64 qm4[k].2.id, .bool qm4[k].2.ma, .int .i64 qm4[k].2.sz, .string qm4[k].2.sum, .slice ad qm4[k].2.ps.length cap]) ∧ ((w'.cell? ⟨g, 0, none⟩ = some (.int .i64 qm4[k].2.id) ∧ w'.cell? ⟨g, 1, none⟩ = some (.bool qm4[k].2.ma) ∧ w'.cell? ⟨g, 2, none⟩ = some (.int .i64 qm4[k].2.sz) ∧ w'.cell? ⟨g, 3, none⟩ = some (.string qm4[k].2.sum) ∧ w'.cell? ⟨g, 4, none⟩ = some (.slice av qm4[k].2.ps.length cv')) ∧ (w'.cell? ⟨bm, om + k * 5, none⟩ = some (.int .i64 qm4[k].2.id) ∧ w'.cell? ⟨bm, om + k * 5 + 1, none⟩ = some (.bool qm4[k].2.ma) ∧ w'.cell? ⟨bm, om + k * 5 + 2, none⟩ = some (.int .i64 qm4[k].2.sz) ∧ w'.cell? ⟨bm, om + k * 5 + 3, none⟩ = some (.string qm4[k].2.sum) ∧ w'.cell? ⟨bm, om + k * 5 + 4, none⟩ = some qm4[k].1)) ∧ Hid ((NS w cv qc (.slice adm qm4.length cpm) qm4 w' ∧ VB g 24 (.slice av qm4[k].2.ps.length cv') qm4[k].2 w') ∧ PcI w' (.slice ad qm4[k].2.ps.length cap) qm4[k].2.ps)) ∧
    Hid (∀ W ad cap, ((NS w cv qc (.slice adm qm4.length cpm) qm4 W ∧ VB g 24 (.slice av qm4[k].2.ps.length cv') qm4[k].2 W) ∧ PcI W (.slice ad qm4[k].2.ps.length cap) qm4[k].2.ps) → Calls Try.prog 26 #[.agg #[.int .i64 qm4[k].2.id, .bool qm4[k].2.ma, .int .i64 qm4[k].2.sz, .string qm4[k].2.sum, .slice ad qm4[k].2.ps.length cap], .agg #[.int .i64 qm4[k].2.id, .bool qm4[k].2.ma, .int .i64 qm4[k].2.sz, .string qm4[k].2.sum, qm4[k].1]] W fun e w' => e = .returned (.bool true) ∧ ((w'.cell? ⟨g, 0, none⟩ = some (.int .i64 qm4[k].2.id) ∧ w'.cell? ⟨g, 1, none⟩ = some (.bool qm4[k].2.ma) ∧ w'.cell? ⟨g, 2, none⟩ = some (.int .i64 qm4[k].2.sz) ∧ w'.cell? ⟨g, 3, none⟩ = some (.string qm4[k].2.sum) ∧ w'.cell? ⟨g, 4, none⟩ = some (.slice av qm4[k].2.ps.length cv')) ∧ (w'.cell? ⟨bm, om + k * 5, none⟩ = some (.int .i64 qm4[k].2.id) ∧ w'.cell? ⟨bm, om + k * 5 + 1, none⟩ = some (.bool qm4[k].2.ma) ∧ w'.cell? ⟨bm, om + k * 5 + 2, none⟩ = some (.int .i64 qm4[k].2.sz) ∧ w'.cell? ⟨bm, om + k * 5 + 3, none⟩ = some (.string qm4[k].2.sum) ∧ w'.cell? ⟨bm, om + k * 5 + 4, none⟩ = some qm4[k].1)) ∧ Hid (NS w cv qc (.slice adm qm4.length cpm) qm4 w')) := by
  have C : ∀ W', NS w cv qc (.slice adm qm4.length cpm) qm4 W' → VB g 24 (.slice av qm4[k].2.ps.length cv') qm4[k].2 W' → (W'.cell? ⟨g, 0, none⟩ = some (.int .i64 qm4[k].2.id) ∧ W'.cell? ⟨g, 1, none⟩ = some (.bool qm4[k].2.ma) ∧ W'.cell? ⟨g, 2, none⟩ = some (.int .i64 qm4[k].2.sz) ∧ W'.cell? ⟨g, 3, none⟩ = some (.string qm4[k].2.sum) ∧ W'.cell? ⟨g, 4, none⟩ = some (.slice av qm4[k].2.ps.length cv')) ∧ (W'.cell? ⟨bm, om + k * 5, none⟩ = some (.int .i64 qm4[k].2.id) ∧ W'.cell? ⟨bm, om + k * 5 + 1, none⟩ = some (.bool qm4[k].2.ma) ∧ W'.cell? ⟨bm, om + k * 5 + 2, none⟩ = some (.int .i64 qm4[k].2.sz) ∧ W'.cell? ⟨bm, om + k * 5 + 3, none⟩ = some (.string qm4[k].2.sum) ∧ W'.cell? ⟨bm, om + k * 5 + 4, none⟩ = some qm4[k].1) := fun W' h1 h2 => ⟨h2.cells, (hm _ h1).1⟩
  refine ⟨fun W h => (lref_any _ qm4[k].2 W h.2.p (by omega)).mono fun e w' ⟨ad, cap, he, ho, hb⟩ => ⟨ad, cap, he, C _ (h.1.next hb) (h.2.next hb), ⟨h.1.next hb, h.2.next hb⟩, ho.pcs⟩, fun W ad cap h => ?_⟩
  exact (rsame_true _ _ qm4[k].2 W h.2 (hm _ h.1.1).2 (by omega)).mono fun e w' ⟨he, hb⟩ => ⟨he, C _ (h.1.1.next hb) (h.1.2.next hb), h.1.1.next hb⟩
/-- the latest, held against what was put last -/
theorem newest_last (w : World) (g1 g2 : Nat) (av : Option Addr) (cv : Nat) (mp : Value) (x : Vn) (h5 : x.ps.length ≤ 512) (P : World → Prop) (hP : ∀ W W', P W → Below W.heap.size W W' → P W') :
    Hid (∀ W, (P W ∧ VB g1 24 (.slice av x.ps.length cv) x W ∧ VB g2 36 mp x W) → Calls Try.prog 15 #[.agg #[.int .i64 x.id, .bool x.ma, .int .i64 x.sz, .string x.sum, .slice av x.ps.length cv]] W fun e w' => ∃ ad cap, e = .returned (.agg #[.int .i64 x.id, .bool x.ma, .int .i64 x.sz, .string x.sum, .slice ad x.ps.length cap]) ∧ ((w'.cell? ⟨g1, 0, none⟩ = some (.int .i64 x.id) ∧ w'.cell? ⟨g1, 1, none⟩ = some (.bool x.ma) ∧ w'.cell? ⟨g1, 2, none⟩ = some (.int .i64 x.sz) ∧ w'.cell? ⟨g1, 3, none⟩ = some (.string x.sum) ∧ w'.cell? ⟨g1, 4, none⟩ = some (.slice av x.ps.length cv)) ∧ (w'.cell? ⟨g2, 0, none⟩ = some (.int .i64 x.id) ∧ w'.cell? ⟨g2, 1, none⟩ = some (.bool x.ma) ∧ w'.cell? ⟨g2, 2, none⟩ = some (.int .i64 x.sz) ∧ w'.cell? ⟨g2, 3, none⟩ = some (.string x.sum) ∧ w'.cell? ⟨g2, 4, none⟩ = some mp)) ∧ Hid ((P w' ∧ VB g1 24 (.slice av x.ps.length cv) x w' ∧ VB g2 36 mp x w') ∧ PcI w' (.slice ad x.ps.length cap) x.ps)) ∧
    Hid (∀ W ad cap, ((P W ∧ VB g1 24 (.slice av x.ps.length cv) x W ∧ VB g2 36 mp x W) ∧ PcI W (.slice ad x.ps.length cap) x.ps) → Calls Try.prog 26 #[.agg #[.int .i64 x.id, .bool x.ma, .int .i64 x.sz, .string x.sum, .slice ad x.ps.length cap], .agg #[.int .i64 x.id, .bool x.ma, .int .i64 x.sz, .string x.sum, mp]] W fun e w' => e = .returned (.bool true) ∧ ((w'.cell? ⟨g1, 0, none⟩ = some (.int .i64 x.id) ∧ w'.cell? ⟨g1, 1, none⟩ = some (.bool x.ma) ∧ w'.cell? ⟨g1, 2, none⟩ = some (.int .i64 x.sz) ∧ w'.cell? ⟨g1, 3, none⟩ = some (.string x.sum) ∧ w'.cell? ⟨g1, 4, none⟩ = some (.slice av x.ps.length cv)) ∧ (w'.cell? ⟨g2, 0, none⟩ = some (.int .i64 x.id) ∧ w'.cell? ⟨g2, 1, none⟩ = some (.bool x.ma) ∧ w'.cell? ⟨g2, 2, none⟩ = some (.int .i64 x.sz) ∧ w'.cell? ⟨g2, 3, none⟩ = some (.string x.sum) ∧ w'.cell? ⟨g2, 4, none⟩ = some mp)) ∧ Hid (P w')) :=
  ⟨fun W h => (lref_any _ x W h.2.1.p (by omega)).mono fun e w' ⟨ad, cap, he, ho, hb⟩ => ⟨ad, cap, he, ⟨(h.2.1.next hb).cells, (h.2.2.next hb).cells⟩, ⟨hP _ _ h.1 hb, h.2.1.next hb, h.2.2.next hb⟩, ho.pcs⟩,
   fun W ad cap h => (rsame_true _ _ x W h.2 h.1.2.2.p (by omega)).mono fun e w' ⟨he, hb⟩ => ⟨he, ⟨(h.1.2.1.next hb).cells, (h.1.2.2.next hb).cells⟩, hP _ _ h.1.1 hb⟩⟩
set_option maxRecDepth 100000 in
set_option maxHeartbeats 16000000 in
theorem chainNewest_walk (v : Value) (q : List (Value × Vn)) (uv : Value) (us : List Int) (w : World) (hv : VnI w v q) (hz : q.length * 64 ≤ 140737488355328) (hy : ∀ y ∈ q, ibulk.SzB y.2) (hu : IntsI w uv us) (hf : ∀ x ∈ us, (Lit.int .i64 x).wf = true) (hul : us.length ≤ 17592186044416) : Calls Try.prog 8 #[v, uv] w fun e w' => e = .returned (.bool true) ∧ Below w.heap.size w w' := by
  obtain ⟨ad, cap, rfl, hc⟩ := hv.form
  obtain ⟨adu, capu, rfl, hcu⟩ := hu.form
  have HC : Hid (∀ k (hk : k < q.length), ∃ b off, ad = some ⟨b, off, none⟩ ∧ (∃ a c, q[k].1 = .slice a q[k].2.ps.length c) ∧ q[k].2.ps.length * 24 ≤ 140737488355328 ∧ ∀ W, Below w.heap.size w W → (W.cell? ⟨b, off + k * 5, none⟩ = some (.int .i64 q[k].2.id) ∧ W.cell? ⟨b, off + k * 5 + 1, none⟩ = some (.bool q[k].2.ma) ∧ W.cell? ⟨b, off + k * 5 + 2, none⟩ = some (.int .i64 q[k].2.sz) ∧ W.cell? ⟨b, off + k * 5 + 3, none⟩ = some (.string q[k].2.sum) ∧ W.cell? ⟨b, off + k * 5 + 4, none⟩ = some q[k].1) ∧ PcI W q[k].1 q[k].2.ps) := fun k hk => by
    obtain ⟨b, off, e, hb, c0, c1, c2, c3, c4, c5⟩ := hc k hk
    exact ⟨b, off, e, c5.sl, (hy _ (List.getElem_mem hk)).2.1, fun W hB => ⟨⟨(hB.cell (p := ⟨b, off + k * 5, none⟩) hb).trans c0, (hB.cell (p := ⟨b, off + k * 5 + 1, none⟩) hb).trans c1, (hB.cell (p := ⟨b, off + k * 5 + 2, none⟩) hb).trans c2, (hB.cell (p := ⟨b, off + k * 5 + 3, none⟩) hb).trans c3, (hB.cell (p := ⟨b, off + k * 5 + 4, none⟩) hb).trans c4⟩, c5.next hB⟩⟩
  have HCU : Hid (∀ k (hk : k < us.length), ∃ b off, adu = some ⟨b, off, none⟩ ∧ ∀ W, Below w.heap.size w W → W.cell? ⟨b, off + k, none⟩ = some (.int .i64 us[k])) := fun k hk => by
    obtain ⟨b, off, e, hb, c0⟩ := hcu k hk
    exact ⟨b, off, e, fun W hB => (hB.cell (p := ⟨b, off + k, none⟩) hb).trans c0⟩
  have AW := hid (fun W => awake13 W)
  have PT := hid (fun W cv qc pv x h hp => put_own cv qc pv x W h hp)
  have RFF := hid (fun W pv x hp hl => lref_any pv x W hp hl)
  have DR := hid (fun W cv qc (n : Int) h => drop_own cv qc n W h)
  have FN := hid (fun W cv qc (n : Int) h => find_any cv qc n W h)
  have LT := hid (fun W cv qc h => latest_any cv qc W h)
  clear hv hz hy hu hf hul hc hcu
  go_enter Try.func8, Try.ntmps8
  go_wp2_with fail
  refine (AW.out _).mono ?_
  rintro e w0 ⟨rfl, b0⟩
  have O0 := hid (NS.nil (w := w) (W := w0) b0)
  have R0 := hid rlN_nil
  clear b0 AW
  go_wp2
  go_loopg [5, 6, 7] q.length (fun gk s5 s6 s7 wr => ∃ (i : Nat) (qc qm : List (Value × Vn)) (adc : Option Addr) (cpc : Nat) (adm : Option Addr) (cpm : Nat), i ≤ q.length ∧ q.length - i ≤ gk ∧ s5 = .slice adc qc.length cpc ∧ s6 = .slice adm qm.length cpm ∧ s7 = .int .i64 (i : Int) ∧ Hid (RlN qc qm) ∧ Hid (NS w (.slice adc qc.length cpc) qc (.slice adm qm.length cpm) qm wr))
  case atStart => exact ⟨0, [], [], none, 0, none, 0, Nat.zero_le _, by omega, rfl, rfl, rfl, R0, O0⟩
  case round =>
    clear O0 R0
    obtain ⟨i, qc, qm, adc, cpc, adm, cpm, hi, hg, rfl, rfl, rfl, HR, HO⟩ := hrel
    by_cases hlt : i < q.length
    case neg =>
      have g1 : decide ((i : Int) < (q.length : Int)) = false := decide_eq_false (by omega)
      have g2 : decide (i < q.length) = false := decide_eq_false hlt
      clear HC HCU PT RFF DR FN LT HR hlt hi hg
      go_wp2
      go_ret
      exact ⟨rfl, HO.out.b⟩
    have g1 : decide ((i : Int) < (q.length : Int)) = true := decide_eq_true (by omega)
    have g2 : decide (i < q.length) = true := decide_eq_true hlt
    by_cases h40 : i < 40
    case neg =>
      have g3 : decide ((i : Int) < 40) = false := decide_eq_false (by omega)
      have g4 : decide (i < 40) = false := decide_eq_false h40
      clear HC HCU PT RFF DR FN LT HR hlt hi hg h40
      go_wp2
      go_ret
      exact ⟨rfl, HO.out.b⟩
    have g3 : decide ((i : Int) < 40) = true := decide_eq_true (by omega)
    have g4 : decide (i < 40) = true := decide_eq_true h40
    have hi0 : (0 : Int) ≤ (i : Int) := by omega
    have hi1 : (i : Int) < (q.length : Int) := by omega
    have hi2 : (i : Int) < 40 := by omega
    have hwi : wrap64 ((i : Int) + 1) = ((i + 1 : Nat) : Int) := by rw [IntWalk.wrap64_in _ (by omega)]; omega
    have HLT := hid hlt
    have HG := hid hg
    obtain ⟨b, off, rfl, ⟨pa, pc, hpe⟩, hps, hcc⟩ := HC.out i hlt
    have HCC := hid hcc
    obtain ⟨⟨d0, d1, d2, d3, d4⟩, dp⟩ := hcc _ HO.out.b
    have N1 := hid (PT.out _ _ qc q[i].1 q[i].2 HO.out.c.vn dp)
    have RF1 : Hid (∀ W, Below w.heap.size w W → Calls Try.prog 15 #[vnV q[i]] W fun e w' => ∃ ad cap, e = .returned (vnV (.slice ad q[i].2.ps.length cap, q[i].2)) ∧ Hid (OwnP w' W.heap.size 74 (.slice ad q[i].2.ps.length cap) q[i].2.ps) ∧ Hid (Below W.heap.size W w')) := fun W hW => RFF.out W q[i].1 q[i].2 (hcc _ hW).2 hps
    have NC := hid (put_cases (vqL qc) q[i].2)
    have HPUT : Hid (∀ (q' : List (Value × Vn)) (y1 : Value), putE (vqL qc) q[i].2 = 0 → vqL q' = putL (vqL qc) q[i].2 → RlN q' (qm ++ [(y1, q[i].2)])) := fun q' y1 h1 h2 => HR.out.put (y := (y1, q[i].2)) h1 h2
    have HKL : Hid (qm.length ≤ 32) := HR.out.le
    clear hcc PT RFF HC hi hg h40 dp hps
    unfold vnV at N1 RF1
    generalize q[i] = x at *
    clear hlt
    obtain ⟨pv, id, ma, sz, sum, ps⟩ := x
    simp only at *
    subst hpe
    generalize putL (vqL qc) ⟨id, ma, sz, sum, ps⟩ = PL at *
    generalize putE (vqL qc) ⟨id, ma, sz, sum, ps⟩ = PE at *
    generalize hpn : ps.length = pn at *
    clear hpn
    go_wp2_with fail
    refine N1.out.mono ?_
    rintro e w1 ⟨ad1, n1, cap1, q1, rfl, hl1, o1, b1⟩
    have en : n1 = q1.length := by
      obtain ⟨_, _, en, -⟩ := o1.vn.form
      exact (Value.slice.inj en).2.1
    have HN1 := hid en
    clear en
    have O1 := hid (HO.out.next b1)
    have O1n := hid (HO.out.newC o1 b1)
    have HPQ : Hid (PE = 0 → ∀ y1, RlN q1 (qm ++ [(y1, ⟨id, ma, sz, sum, ps⟩)])) := fun h y1 => HPUT.out q1 y1 h hl1
    clear o1 b1 N1 HO d0 d1 d2 d3 d4 hl1 HPUT
    go_upto_if 38 with fail
    go_cut [5, 6] from 18 to 174 (fun s5 s6 wx => ∃ (qc2 qm2 : List (Value × Vn)) (adc2 : Option Addr) (cpc2 : Nat) (adm2 : Option Addr) (cpm2 : Nat), s5 = .slice adc2 qc2.length cpc2 ∧ s6 = .slice adm2 qm2.length cpm2 ∧ Hid (RlN qc2 qm2) ∧ Hid (NS w (.slice adc2 qc2.length cpc2) qc2 (.slice adm2 qm2.length cpm2) qm2 wx))
    case first =>
      clear HCU DR FN LT
      rcases NC.out with rfl | rfl | rfl
      · have RN := hid (HPQ.out rfl)
        obtain ⟨⟨d0, d1, d2, d3, d4⟩, -⟩ := HCC.out _ O1n.out.b
        have RF2 := hid (RF1.out _ O1n.out.b)
        clear NC HPQ HCC RF1 O1 HR
        go_wp2_with fail
        refine RF2.out.mono ?_
        rintro e w2 ⟨ad3, cap3, rfl, o3, b3⟩
        have O2 := hid (O1n.out.next b3.out)
        have O3 : Hid (OwnP w2 w.heap.size 74 (.slice ad3 pn cap3) ps) := ownsRow_base o3.out O1n.out.b.size
        clear o3 b3 RF2 O1n d0 d1 d2 d3 d4
        have HX2 : Hid ((vnC (.slice ad3 pn cap3, ⟨id, ma, sz, sum, ps⟩)).length = 1 * 5) := rfl
        have HO1 := hid (vnC_one ad3 pn cap3 ⟨id, ma, sz, sum, ps⟩)
        have hal := (Below.refl w2.heap.size w2).alloc (Nat.le_refl _) (.cells #[.int .i64 id, .bool ma, .int .i64 sz, .string sum, .slice ad3 pn cap3] 36)
        have OA := hid (O2.out.next hal)
        have OP := hid (O3.out.next hal)
        have HGX : Hid (GSrc (w2.alloc (.cells #[.int .i64 id, .bool ma, .int .i64 sz, .string sum, .slice ad3 pn cap3] 36)) (.slice (some ⟨w2.heap.size, 0, none⟩) 1 1) 1 (vnC (.slice ad3 pn cap3, ⟨id, ma, sz, sum, ps⟩))) := gsrc_block (heap_alloc_new _ _)
        have HSZ := hid OA.out.b.size
        have HB3 : Hid (qm.length + 1 ≤ 4611686018427387904) := by have := HKL.out; show _ ≤ _; omega
        have HB4 : Hid ((qm.length + 1) * 64 ≤ 140737488355328) := by have := HKL.out; show _ ≤ _; omega
        have HGA := hid OA.out.m.1
        have FIN : Hid (∀ ad' cap' w', w'.ownsRow w.heap.size 36 5 (.slice ad' (qm.length + 1) cap') (qm.length + 1) (vqC qm ++ vnC (.slice ad3 pn cap3, ⟨id, ma, sz, sum, ps⟩)) → Keep (fun j => (Value.slice adm qm.length cpm).ownBlock = some j) (w2.alloc (.cells #[.int .i64 id, .bool ma, .int .i64 sz, .string sum, .slice ad3 pn cap3] 36)) w' → Hid (NS w (.slice ad1 n1 cap1) q1 (.slice ad' (qm ++ [((.slice ad3 pn cap3 : Value), (⟨id, ma, sz, sum, ps⟩ : Vn))]).length cap') (qm ++ [((.slice ad3 pn cap3 : Value), (⟨id, ma, sz, sum, ps⟩ : Vn))]) w')) := fun ad' cap' w' hr hk' => by
          have := OA.out.appM (y := ((.slice ad3 pn cap3 : Value), (⟨id, ma, sz, sum, ps⟩ : Vn))) OP.out hr hk'
          show NS _ _ _ _ _ _
          rw [List.length_append, List.length_singleton]
          exact this
        have HLE : Hid ((qm ++ [((.slice ad3 pn cap3 : Value), (⟨id, ma, sz, sum, ps⟩ : Vn))]).length = qm.length + 1) := by simp [hid]
        clear hal O2 O3 OA OP HKL
        generalize vnC (.slice ad3 pn cap3, ⟨id, ma, sz, sum, ps⟩) = XS at *
        generalize vqC qm = PA at *
        go_wp2_with (at_builtin; refine wpl_gappL rfl _ _ elRV rfl w.heap.size (.slice adm qm.length cpm) (.slice (some ⟨w2.heap.size, 0, none⟩) 1 1) PA XS qm.length 1 (qm.length + 1) rfl rfl rfl HGA.out HSZ.out HGX.out HX2.out HO1.out HB3.out HB4.out ?_; intro ad' cap' w' hr' hk')
        have OF := FIN.out _ _ _ hr' hk'
        clear hr' hk' FIN HGA HGX HSZ
        go_wp2_with fail
        go_meet
        exact ⟨q1, qm ++ [((.slice ad3 pn cap3 : Value), (⟨id, ma, sz, sum, ps⟩ : Vn))], ad1, cap1, ad', cap', by rw [HN1.out], by rw [HLE.out], RN.out _, by rw [← HN1.out]; exact OF⟩
      · clear NC HPQ HCC RF1 O1n HKL
        go_wp2_with fail
        go_meet
        exact ⟨qc, qm, adc, cpc, adm, cpm, rfl, rfl, HR, O1⟩
      · clear NC HPQ HCC RF1 O1n HKL
        go_wp2_with fail
        go_meet
        exact ⟨qc, qm, adc, cpc, adm, cpm, rfl, rfl, HR, O1⟩
    case rest =>
    obtain ⟨qc2, qm2, adc2, cpc2, adm2, cpm2, rfl, rfl, HR2, HO2⟩ := hcut
    clear NC HPQ HCC RF1 O1n HKL HR O1 HN1
    go_upto_region 12 with fail
    go_cut [72] from 18 to 174 (fun s72 wx => ∃ UB : Bool, s72 = .bool UB ∧ wx = wc ∧ Hid (UB = true → ∃ (hi : i < us.length) (d : Nat), us[i] = (d : Int) ∧ d < qm2.length))
    case first =>
      as_aux_lemma =>
        clear DR FN LT
        by_cases hiu : i < us.length
        · obtain ⟨bu, ou2, rfl, hcu⟩ := HCU.out i hiu
          have cu := hcu _ HO2.out.b
          have e1 : (i : Int) < (us.length : Int) := by omega
          by_cases hm0 : 0 < qm2.length
          · have e3 : decide (0 < (qm2.length : Int)) = true := decide_eq_true (by omega)
            have e4 : decide (0 < qm2.length) = true := decide_eq_true hm0
            have e5 : (0 : Int) < (qm2.length : Int) := by omega
            have HPOS : Hid (∀ UB : Bool, decide (0 ≤ us[i]) = true → decide (us[i] < (qm2.length : Int)) = UB → UB = true → ∃ (hi : i < us.length) (d : Nat), us[i] = (d : Int) ∧ d < qm2.length) := fun UB h0 h1 h2 => by
              rw [h2] at h1
              have h0 := of_decide_eq_true h0
              have h1 := of_decide_eq_true h1
              exact ⟨hiu, us[i].toNat, by omega, by omega⟩
            clear hcu HCU HO2 HR2
            generalize us[i] = U at *
            cases hU : decide (0 ≤ U)
            · clear HPOS
              go_wp2_with fail
              go_meet
              exact ⟨false, rfl, rfl, fun h => by cases h⟩
            · cases hV : decide (U < (qm2.length : Int))
              · clear HPOS
                go_wp2_with fail
                go_meet
                exact ⟨false, rfl, rfl, fun h => by cases h⟩
              · have HP2 := hid (HPOS.out true hU hV rfl)
                clear HPOS
                go_wp2_with fail
                go_meet
                exact ⟨true, rfl, rfl, fun _ => HP2.out⟩
          · have e3 : decide (0 < (qm2.length : Int)) = false := decide_eq_false (by omega)
            have e4 : decide (0 < qm2.length) = false := decide_eq_false hm0
            clear hcu HCU HO2 HR2
            go_wp2_with fail
            go_meet
            exact ⟨false, rfl, rfl, fun h => by cases h⟩
        · have e1 : decide ((i : Int) < (us.length : Int)) = false := decide_eq_false (by omega)
          have e2 : decide (i < us.length) = false := decide_eq_false hiu
          clear HCU HO2 HR2
          go_wp2_with fail
          go_meet
          exact ⟨false, rfl, rfl, fun h => by cases h⟩
    case rest =>
    obtain ⟨UB, rfl, rfl, HUB⟩ := hcut
    go_upto_if 72 with fail
    go_cut [5, 6, 8, 9] from 18 to 174 (fun s5 s6 s8 s9 wx => ∃ (qc2 qm2 : List (Value × Vn)) (adc2 : Option Addr) (cpc2 : Nat) (adm2 : Option Addr) (cpm2 : Nat), s5 = .slice adc2 qc2.length cpc2 ∧ s6 = .slice adm2 qm2.length cpm2 ∧ Hid (RlN qc2 qm2) ∧ Hid (NS w (.slice adc2 qc2.length cpc2) qc2 (.slice adm2 qm2.length cpm2) qm2 wx))
    case first =>
      as_aux_lemma =>
        clear FN LT
        cases UB
        · clear HCU DR HUB
          go_wp2_with fail
          go_meet
          exact ⟨qc2, qm2, adc2, cpc2, adm2, cpm2, rfl, rfl, HR2, HO2⟩
        · obtain ⟨hiu, d, hd, hdl⟩ := HUB.out rfl
          obtain ⟨bu, ou2, rfl, hcu⟩ := HCU.out i hiu
          have cu := hcu _ HO2.out.b
          have HCQ : Hid (∀ W, Below w.heap.size w W → W.cell? ⟨bu, ou2 + i, none⟩ = some (.int .i64 (d : Int))) := fun W hW => by rw [← hd]; exact hcu W hW
          rw [hd] at cu
          have e1 : (i : Int) < (us.length : Int) := by omega
          have c1 : (d : Int) < (qm2.length : Int) := by omega
          have c2 : (0 : Int) ≤ (d : Int) := by omega
          obtain ⟨bm, om, rfl, hcm⟩ := HO2.out.at d hdl
          obtain ⟨⟨k0, -, -, -, -⟩, -⟩ := hcm _ HO2.out
          obtain ⟨r1, r2, r3⟩ := HR2.out.at hdl
          have D1 := hid (DR.out _ _ qc2 qm2[d].2.id HO2.out.c.vn)
          rw [r1] at D1
          have HDR : Hid (∀ q', vqL q' = drL (vqL qc2) qm2[d].2.id → RlN q' (qm2.take d ++ qm2.drop (d + 1))) := r3
          have H32 := hid HR2.out.le
          have HDL := hid hdl
          clear hcu HCU DR HUB hd hiu hcm r1 r2 r3 HR2
          generalize drL (vqL qc2) qm2[d].2.id = DL at *
          generalize qm2[d].2.id = ID at *
          clear hdl
          go_wp2_with fail
          refine D1.out.mono ?_
          rintro e w3 ⟨ad3, n3, cap3, q3, rfl, hl3, o3, b3⟩
          have en : n3 = q3.length := by
            obtain ⟨_, _, en, -⟩ := o3.vn.form
            exact (Value.slice.inj en).2.1
          subst en
          have O3 := hid (HO2.out.newC o3 b3)
          have RN := hid (HDR.out q3 hl3)
          clear o3 b3 hl3 HDR D1 HO2 cu k0
          have hdl := HDL.out
          have h32 := H32.out
          obtain ⟨ad4, cap4, r4, s4⟩ := rowc_to elRV (RowC.own O3.out.m.1) (k := d) (by omega)
          obtain ⟨ad5, cap5, r5, s5⟩ := rowc_from elRV (RowC.own O3.out.m.1) (vqC_len qm2) (k := d + 1) hdl
          rw [vqC_tk qm2 d (by omega)] at r4
          rw [vqC_drop qm2 (d + 1) hdl] at r5
          rw [show ((d + 1 : Nat) : Int) = (d : Int) + 1 by omega] at s5
          obtain ⟨hwd, hwd2⟩ := wrap_succ d (by omega)
          have BE0 : Hid (Below w.heap.size w (w3.alloc (.cells #[] 36))) := below_al O3.out.b _
          have HG0 : Hid (World.ownsRow (w3.alloc (.cells #[] 36)) w3.heap.size 36 5 (.slice (some ⟨w3.heap.size, 0, none⟩) 0 0) 0 []) := own_made w3 [] 36 5 0 w3.heap.size (Nat.le_refl _) rfl (by omega)
          have be : Below w3.heap.size w3 (w3.alloc (.cells #[] 36)) := below_al (Below.refl _ _) _
          have HSZ : Hid (w3.heap.size ≤ ((w3.alloc (.cells #[] 36))).heap.size) := be.size
          have HR4 := hid (r4.next be)
          have HR5 := hid r5
          have HL4 : Hid ((vqC (qm2.take d)).length = d * 5) := by show _ = _; rw [vqC_len, List.length_take, Nat.min_eq_left (by omega)]
          have HL5 : Hid ((vqC (qm2.drop (d + 1))).length = (qm2.length - (d + 1)) * 5) := by show _ = _; rw [vqC_len, List.length_drop]
          have HO4 : Hid (∀ u ∈ vqC (qm2.take d), u.oneCell' = true) := vqC_cell (w := w3) (fun y hy => O3.out.m.vn.2 y (List.mem_of_mem_take hy))
          have HO5 : Hid (∀ u ∈ vqC (qm2.drop (d + 1)), u.oneCell' = true) := vqC_cell (w := w3) (fun y hy => O3.out.m.vn.2 y (List.mem_of_mem_drop hy))
          have HNM : Hid (d + (qm2.length - (d + 1)) = (qm2.take d ++ qm2.drop (d + 1)).length) := by show _ = _; simp; omega
          have HB1 : Hid (d ≤ 70368744177) := by show _ ≤ _; omega
          have HB2 : Hid (d * 64 ≤ 140737488355328) := by show _ ≤ _; omega
          have HB3 : Hid ((qm2.take d ++ qm2.drop (d + 1)).length ≤ 70368744177) := by rw [← HNM.out]; show _ ≤ _; omega
          have HB4 : Hid ((qm2.take d ++ qm2.drop (d + 1)).length * 64 ≤ 140737488355328) := by rw [← HNM.out]; show _ ≤ _; omega
          have F4 : Hid (∀ ad' cap' w', w'.ownsRow w3.heap.size 36 5 (.slice ad' d cap') d ([] ++ vqC (qm2.take d)) → Keep (fun j => (Value.slice (some ⟨w3.heap.size, 0, none⟩) 0 0).ownBlock = some j) (w3.alloc (.cells #[] 36)) w' → (w'.cell? ⟨bu, ou2 + i, none⟩ = some (.int .i64 (d : Int))) ∧ Hid (w'.ownsRow w3.heap.size 36 5 (.slice ad' d cap') d (vqC (qm2.take d))) ∧ Hid (RowC w' (.slice ad5 (qm2.length - (d + 1)) cap5) (qm2.length - (d + 1)) (vqC (qm2.drop (d + 1)))) ∧ Hid (Below w3.heap.size w3 w')) := fun ad' cap' w' hr hk => by
            have hb : Below w3.heap.size w3 w' := be.trans (keep_below hk (fun j hj e => by have := ownsRow_ge HG0.out e; omega) be.size)
            exact ⟨HCQ.out _ (below_on O3.out.b hb), hr, HR5.out.next hb, hb⟩
          have F5 : Hid (∀ ad6 cap6 w4 ad' cap' w', Below w3.heap.size w3 w4 → w4.ownsRow w3.heap.size 36 5 (.slice ad6 d cap6) d (vqC (qm2.take d)) → w'.ownsRow w3.heap.size 36 5 (.slice ad' (qm2.take d ++ qm2.drop (d + 1)).length cap') (qm2.take d ++ qm2.drop (d + 1)).length (vqC (qm2.take d) ++ vqC (qm2.drop (d + 1))) → Keep (fun j => (Value.slice ad6 d cap6).ownBlock = some j) w4 w' → (w'.cell? ⟨bu, ou2 + i, none⟩ = some (.int .i64 (d : Int))) ∧ Hid (NS w (.slice ad3 q3.length cap3) q3 (.slice ad' (qm2.take d ++ qm2.drop (d + 1)).length cap') (qm2.take d ++ qm2.drop (d + 1)) w')) := fun ad6 cap6 w4 ad' cap' w' hb4 h6 hr hk => by
            have hb : Below w3.heap.size w3 w' := hb4.trans (keep_below hk (fun j hj e => by have := ownsRow_ge h6 e; omega) hb4.size)
            exact ⟨HCQ.out _ (below_on O3.out.b hb), O3.out.newM rfl (vqC_app _ _).symm hr (fun y hy => by
              rcases List.mem_append.1 hy with e | e
              · exact List.mem_of_mem_take e
              · exact List.mem_of_mem_drop e) hb⟩
          have cu := HCQ.out _ O3.out.b
          clear r4 r5 be HR5 hdl h32 H32 HDL
          generalize vqC (qm2.take d) = PA at *
          generalize vqC (qm2.drop (d + 1)) = PB at *
          generalize qm2.take d ++ qm2.drop (d + 1) = QM at *
          go_wp2
          refine wp_region_held_drew (S := (fun w' => w'.cell? ⟨bu, ou2 + i, none⟩ = some (.int .i64 (d : Int)))) (by kernel_rfl) cu (fun hHeld => ?_)
          refine wpAnyH_take (i := 1) (v := ?vv1) rfl (by kernel_rfl) (by kernel_rfl) (by kernel_rfl) (fun _ _ _ h => h) (Or.inl ⟨by rfl, ?hy1⟩) (by assumption) ?rest1
          case hy1 => (intro w hSw; (try dsimp only at hSw); go_simp; first | done | with_reducible rfl)
          try simp only [Act.put, List.getElem_toArray, List.getElem_cons_succ, List.getElem_cons_zero, List.setIfInBounds_toArray, List.set_cons_zero, List.set_cons_succ]
          refine wpAnyH_take (i := 2) (v := ?vv2) rfl (by kernel_rfl) (by kernel_rfl) (by kernel_rfl) (fun _ _ _ h => h) (Or.inl ⟨by rfl, ?hy2⟩) (by assumption) ?rest2
          case hy2 => (intro w hSw; (try dsimp only at hSw); go_simp; first | done | with_reducible rfl)
          try simp only [Act.put, List.getElem_toArray, List.getElem_cons_succ, List.getElem_cons_zero, List.setIfInBounds_toArray, List.set_cons_zero, List.set_cons_succ]
          refine wpAnyH_take (i := 3) (v := ?vv3) rfl (by kernel_rfl) (by kernel_rfl) (by kernel_rfl) (fun _ _ _ h => h) (Or.inl ⟨by rfl, ?hy3⟩) (by assumption) ?rest3
          case hy3 => (intro w hSw; (try dsimp only at hSw); go_simp; first | done | with_reducible rfl)
          try simp only [Act.put, List.getElem_toArray, List.getElem_cons_succ, List.getElem_cons_zero, List.setIfInBounds_toArray, List.set_cons_zero, List.set_cons_succ]
          refine wpAnyH_take (i := 4) (v := ?vv4) rfl (by kernel_rfl) (by kernel_rfl) (by kernel_rfl) (fun _ _ _ h => h) (Or.inl ⟨by rfl, ?hy4⟩) (by assumption) ?rest4
          case hy4 => (intro w hSw; (try dsimp only at hSw); go_simp; first | done | with_reducible rfl)
          try simp only [Act.put, List.getElem_toArray, List.getElem_cons_succ, List.getElem_cons_zero, List.setIfInBounds_toArray, List.set_cons_zero, List.set_cons_succ]
          refine wpAnyH_take (i := 5) (v := ?vv5) rfl (by kernel_rfl) (by kernel_rfl) (by kernel_rfl) (fun _ _ _ h => h) (Or.inl ⟨by rfl, ?hy5⟩) (by assumption) ?rest5
          case hy5 => (intro w hSw; (try dsimp only at hSw); go_simp; first | done | with_reducible rfl)
          try simp only [Act.put, List.getElem_toArray, List.getElem_cons_succ, List.getElem_cons_zero, List.setIfInBounds_toArray, List.set_cons_zero, List.set_cons_succ]
          refine wpAnyH_take (i := 6) (v := ?vv6) rfl (by kernel_rfl) (by kernel_rfl) (by kernel_rfl) (fun _ _ _ h => h) (Or.inl ⟨by rfl, ?hy6⟩) (by assumption) ?rest6
          case hy6 => (intro w hSw; (try dsimp only at hSw); go_simp; first | done | with_reducible rfl)
          try simp only [Act.put, List.getElem_toArray, List.getElem_cons_succ, List.getElem_cons_zero, List.setIfInBounds_toArray, List.set_cons_zero, List.set_cons_succ]
          refine wpAnyH_take (i := 8) (v := ?vv7) rfl (by kernel_rfl) (by kernel_rfl) (by kernel_rfl) (fun _ _ _ h => h) (Or.inl ⟨by rfl, ?hy7⟩) (by assumption) ?rest7
          case hy7 => (intro w hSw; (try dsimp only at hSw); go_simp; first | done | with_reducible rfl)
          try simp only [Act.put, List.getElem_toArray, List.getElem_cons_succ, List.getElem_cons_zero, List.setIfInBounds_toArray, List.set_cons_zero, List.set_cons_succ]
          refine wpAnyH_take (i := 9) (v := ?vv8) rfl (by kernel_rfl) (by kernel_rfl) (by kernel_rfl) (fun _ _ _ h => h) (Or.inl ⟨by rfl, ?hy8⟩) (by assumption) ?rest8
          case hy8 => (intro w hSw; (try dsimp only at hSw); go_simp; first | done | with_reducible rfl)
          try simp only [Act.put, List.getElem_toArray, List.getElem_cons_succ, List.getElem_cons_zero, List.setIfInBounds_toArray, List.set_cons_zero, List.set_cons_succ]
          refine wpAnyH_take (i := 10) (v := ?vv9) rfl (by kernel_rfl) (by kernel_rfl) (by kernel_rfl) (fun _ _ _ h => h) (Or.inl ⟨by rfl, ?hy9⟩) (by assumption) ?rest9
          case hy9 => (intro w hSw; (try dsimp only at hSw); go_simp; first | done | with_reducible rfl)
          try simp only [Act.put, List.getElem_toArray, List.getElem_cons_succ, List.getElem_cons_zero, List.setIfInBounds_toArray, List.set_cons_zero, List.set_cons_succ]
          refine wpAnyH_take (i := 11) (v := ?vv10) rfl (by kernel_rfl) (by kernel_rfl) (by kernel_rfl) (fun _ _ _ h => h) (Or.inl ⟨by rfl, ?hy10⟩) (by assumption) ?rest10
          case hy10 => (intro w hSw; (try dsimp only at hSw); go_simp; first | done | with_reducible rfl)
          try simp only [Act.put, List.getElem_toArray, List.getElem_cons_succ, List.getElem_cons_zero, List.setIfInBounds_toArray, List.set_cons_zero, List.set_cons_succ]
          refine wpAnyH_take (i := 12) (v := ?vv11) rfl (by kernel_rfl) (by kernel_rfl) (by kernel_rfl) (fun _ _ _ h => h) (Or.inl ⟨by rfl, ?hy11⟩) (by assumption) ?rest11
          case hy11 => (intro w hSw; (try dsimp only at hSw); go_simp; first | done | with_reducible rfl)
          try simp only [Act.put, List.getElem_toArray, List.getElem_cons_succ, List.getElem_cons_zero, List.setIfInBounds_toArray, List.set_cons_zero, List.set_cons_succ]
          refine wpAnyH_take (i := 13) (v := ?vv12) rfl (by kernel_rfl) (by kernel_rfl) (by kernel_rfl) (fun _ _ _ h => h) (Or.inl ⟨by rfl, ?hy12⟩) (by assumption) ?rest12
          case hy12 => (intro w hSw; (try dsimp only at hSw); go_simp; first | done | with_reducible rfl)
          try simp only [Act.put, List.getElem_toArray, List.getElem_cons_succ, List.getElem_cons_zero, List.setIfInBounds_toArray, List.set_cons_zero, List.set_cons_succ]
          refine wpAnyH_take (i := 14) (v := ?vv13) rfl (by kernel_rfl) (by kernel_rfl) (by kernel_rfl) (fun _ _ _ h => h) (Or.inl ⟨by rfl, ?hy13⟩) (by assumption) ?rest13
          case hy13 => (intro w hSw; (try dsimp only at hSw); go_simp; first | done | with_reducible rfl)
          try simp only [Act.put, List.getElem_toArray, List.getElem_cons_succ, List.getElem_cons_zero, List.setIfInBounds_toArray, List.set_cons_zero, List.set_cons_succ]
          refine wpAnyH_ready (rs := [0]) (by kernel_rfl) (by simp) ?_
          refine AllReadyH.cons rfl (fun K hK => ?_) AllReadyH.nil
          go_simp
          refine hK.out _ _ (HCQ.out _ BE0.out.drew) (fun hHeld => ?_)
          clear hK K
          try simp only [Act.put, List.getElem_toArray, List.getElem_cons_succ, List.getElem_cons_zero, List.setIfInBounds_toArray, List.set_cons_zero, List.set_cons_succ]
          refine wpAnyH_ready (rs := [7]) (by kernel_rfl) (by simp) ?_
          refine AllReadyH.cons rfl (fun K hK => ?_) AllReadyH.nil
          refine step_gappR (w0 := (w3.alloc (.cells #[] 36))) (by rfl) _ _ elRV (by rfl) w3.heap.size (.slice (some ⟨w3.heap.size, 0, none⟩) 0 0) (.slice ad4 d cap4) [] PA 0 d d (Nat.zero_add d) (by first | with_reducible exact Keep.refl _ _ | exact keep_drew _ _) (by rfl) (by rfl) HG0.out HSZ.out HR4.out HL4.out HO4.out HB1.out HB2.out ?_
          intro ad6 cap6 w4 hr4 hk4
          obtain ⟨ZC4, R6, R7, B4⟩ := F4.out _ _ _ hr4 hk4
          clear hr4 hk4 F4
          refine hK.out _ _ ZC4 (fun hHeld => ?_)
          clear hK K
          try simp only [Act.put, List.getElem_toArray, List.getElem_cons_succ, List.getElem_cons_zero, List.setIfInBounds_toArray, List.set_cons_zero, List.set_cons_succ]
          refine wpAnyH_ready (rs := [15]) (by kernel_rfl) (by simp) ?_
          refine AllReadyH.cons rfl (fun K hK => ?_) AllReadyH.nil
          refine step_gappR (w0 := w4) (by rfl) _ _ elRV (by rfl) w3.heap.size (.slice ad6 d cap6) (.slice ad5 (qm2.length - (d + 1)) cap5) PA PB d (qm2.length - (d + 1)) QM.length HNM.out (by first | with_reducible exact Keep.refl _ _ | exact keep_drew _ _) (by rfl) (by rfl) R6.out B4.out.size R7.out HL5.out HO5.out HB3.out HB4.out ?_
          intro ad7 cap7 w5 hr5 hk5
          obtain ⟨ZC5, OF⟩ := F5.out _ _ _ _ _ _ B4.out R6.out hr5 hk5
          clear hr5 hk5 F5
          refine hK.out _ _ ZC5 (fun hHeld => ?_)
          clear hK K
          try simp only [Act.put, List.getElem_toArray, List.getElem_cons_succ, List.getElem_cons_zero, List.setIfInBounds_toArray, List.set_cons_zero, List.set_cons_succ]
          refine wpAnyH_take (i := 16) (v := ?vv14) rfl (by kernel_rfl) (by kernel_rfl) (by kernel_rfl) (fun _ _ _ h => h) (Or.inl ⟨by rfl, ?hy14⟩) (by assumption) ?rest14
          case hy14 => (intro w hSw; (try dsimp only at hSw); go_simp; first | done | with_reducible rfl)
          try simp only [Act.put, List.getElem_toArray, List.getElem_cons_succ, List.getElem_cons_zero, List.setIfInBounds_toArray, List.set_cons_zero, List.set_cons_succ]
          refine wpAnyH_done (by kernel_rfl) ?_ _
          clear hHeld
          go_wp2_with fail
          go_meet
          exact ⟨q3, QM, ad3, cap3, ad7, cap7, rfl, rfl, RN, OF⟩
    case rest =>
    obtain ⟨qc4, qm4, adc4, cpc4, adm4, cpm4, rfl, rfl, HR4, HO4⟩ := hcut
    have HLN := hid HR4.out.len
    have HL4 := hid HR4.out.le
    have hl4 : ((qc4.length : Int) != (qm4.length : Int)) = false := by rw [HLN.out]; simp
    have hl5 : (qc4.length == qm4.length) = true := by rw [HLN.out]; simp
    have HFD : Hid (∀ (k : Nat) (hk : k < qm4.length), plE (vqL qc4) qm4[k].2.id = 0 ∧ fdV (vqL qc4) qm4[k].2.id = qm4[k].2 ∧ qm4[k].2.ps.length ≤ 512) := fun k hk => ⟨(HR4.out.at hk).1, (HR4.out.at hk).2.1, rlN_fd HR4.out hk⟩
    clear HCU DR HUB HR2 HO2
    go_wp2
    clear hl4 hl5
    go_loopg [10] qm4.length (fun gj s10 wx => ∃ (k : Nat), k ≤ qm4.length ∧ qm4.length - k ≤ gj ∧ s10 = .int .i64 (k : Int) ∧ Hid (NS w (.slice adc4 qc4.length cpc4) qc4 (.slice adm4 qm4.length cpm4) qm4 wx))
    case atStart => exact ⟨0, Nat.zero_le _, by omega, rfl, HO4⟩
    case round =>
      as_aux_lemma =>
        clear HO4
        obtain ⟨k, hj, hgj, rfl, HO5⟩ := hrel
        by_cases hjl : k < qm4.length
        · have c1 : (k : Int) < (qm4.length : Int) := by omega
          have c2 : (0 : Int) ≤ (k : Int) := by omega
          have hj64 : (k : Int) < 33 := by have := HL4.out; omega
          have hwj : wrap64 ((k : Int) + 1) = ((k + 1 : Nat) : Int) := by rw [IntWalk.wrap64_in _ (by omega)]; omega
          obtain ⟨l1, l2, l3⟩ := HFD.out k hjl
          obtain ⟨bm, om, rfl, hcm⟩ := HO5.out.at k hjl
          have HCM := hid hcm
          obtain ⟨⟨k0, k1, k2, k3, k4⟩, kp⟩ := hcm _ HO5.out
          obtain ⟨pa, pc, hpe⟩ := kp.sl
          have F1 := hid (FN.out _ _ qc4 qm4[k].2.id HO5.out.c.vn)
          rw [l1, l2] at F1
          have NFR := hid (fun g av cv' => newest_find w _ qc4 _ cpm4 qm4 k hjl bm om g av cv' l3 hcm)
          have NBM : Hid (∀ w6 av cv', Below (World.heap wr).size wr w6 → PcI w6 (.slice av qm4[k].2.ps.length cv') qm4[k].2.ps → (NS w (.slice adc4 qc4.length cpc4) qc4 (.slice (some ⟨bm, om, none⟩) qm4.length cpm4) qm4 (w6.alloc (.cells #[.int .i64 qm4[k].2.id, .bool qm4[k].2.ma, .int .i64 qm4[k].2.sz, .string qm4[k].2.sum, .slice av qm4[k].2.ps.length cv'] 24)) ∧ VB w6.heap.size 24 (.slice av qm4[k].2.ps.length cv') qm4[k].2 (w6.alloc (.cells #[.int .i64 qm4[k].2.id, .bool qm4[k].2.ma, .int .i64 qm4[k].2.sz, .string qm4[k].2.sum, .slice av qm4[k].2.ps.length cv'] 24))) ∧ (((w6.alloc (.cells #[.int .i64 qm4[k].2.id, .bool qm4[k].2.ma, .int .i64 qm4[k].2.sz, .string qm4[k].2.sum, .slice av qm4[k].2.ps.length cv'] 24)).cell? ⟨w6.heap.size, 0, none⟩ = some (.int .i64 qm4[k].2.id) ∧ (w6.alloc (.cells #[.int .i64 qm4[k].2.id, .bool qm4[k].2.ma, .int .i64 qm4[k].2.sz, .string qm4[k].2.sum, .slice av qm4[k].2.ps.length cv'] 24)).cell? ⟨w6.heap.size, 1, none⟩ = some (.bool qm4[k].2.ma) ∧ (w6.alloc (.cells #[.int .i64 qm4[k].2.id, .bool qm4[k].2.ma, .int .i64 qm4[k].2.sz, .string qm4[k].2.sum, .slice av qm4[k].2.ps.length cv'] 24)).cell? ⟨w6.heap.size, 2, none⟩ = some (.int .i64 qm4[k].2.sz) ∧ (w6.alloc (.cells #[.int .i64 qm4[k].2.id, .bool qm4[k].2.ma, .int .i64 qm4[k].2.sz, .string qm4[k].2.sum, .slice av qm4[k].2.ps.length cv'] 24)).cell? ⟨w6.heap.size, 3, none⟩ = some (.string qm4[k].2.sum) ∧ (w6.alloc (.cells #[.int .i64 qm4[k].2.id, .bool qm4[k].2.ma, .int .i64 qm4[k].2.sz, .string qm4[k].2.sum, .slice av qm4[k].2.ps.length cv'] 24)).cell? ⟨w6.heap.size, 4, none⟩ = some (.slice av qm4[k].2.ps.length cv')) ∧ ((w6.alloc (.cells #[.int .i64 qm4[k].2.id, .bool qm4[k].2.ma, .int .i64 qm4[k].2.sz, .string qm4[k].2.sum, .slice av qm4[k].2.ps.length cv'] 24)).cell? ⟨bm, om + k * 5, none⟩ = some (.int .i64 qm4[k].2.id) ∧ (w6.alloc (.cells #[.int .i64 qm4[k].2.id, .bool qm4[k].2.ma, .int .i64 qm4[k].2.sz, .string qm4[k].2.sum, .slice av qm4[k].2.ps.length cv'] 24)).cell? ⟨bm, om + k * 5 + 1, none⟩ = some (.bool qm4[k].2.ma) ∧ (w6.alloc (.cells #[.int .i64 qm4[k].2.id, .bool qm4[k].2.ma, .int .i64 qm4[k].2.sz, .string qm4[k].2.sum, .slice av qm4[k].2.ps.length cv'] 24)).cell? ⟨bm, om + k * 5 + 2, none⟩ = some (.int .i64 qm4[k].2.sz) ∧ (w6.alloc (.cells #[.int .i64 qm4[k].2.id, .bool qm4[k].2.ma, .int .i64 qm4[k].2.sz, .string qm4[k].2.sum, .slice av qm4[k].2.ps.length cv'] 24)).cell? ⟨bm, om + k * 5 + 3, none⟩ = some (.string qm4[k].2.sum) ∧ (w6.alloc (.cells #[.int .i64 qm4[k].2.id, .bool qm4[k].2.ma, .int .i64 qm4[k].2.sz, .string qm4[k].2.sum, .slice av qm4[k].2.ps.length cv'] 24)).cell? ⟨bm, om + k * 5 + 4, none⟩ = some qm4[k].1))) := fun w6 av cv' hb hp => by
            have h1 : NS w (.slice adc4 qc4.length cpc4) qc4 (.slice (some ⟨bm, om, none⟩) qm4.length cpm4) qm4 (w6.alloc (.cells #[.int .i64 qm4[k].2.id, .bool qm4[k].2.ma, .int .i64 qm4[k].2.sz, .string qm4[k].2.sum, .slice av qm4[k].2.ps.length cv'] 24)) := (HO5.out.next hb).next (below_al (Below.refl _ _) _)
            have h2 := (VB.made w6 24 (.slice av qm4[k].2.ps.length cv') qm4[k].2 hp)
            exact ⟨⟨h1, h2⟩, h2.cells, (hcm _ h1).1⟩
          have HJ := hid hjl
          have HGJ := hid hgj
          clear FN LT HFD HL4 HLN l1 l2 l3 hj hgj HR4 hcm HCM kp
          unfold GiveO vnV at F1
          generalize qm4[k] = y at *
          clear hjl
          obtain ⟨pv, id, ma, sz, sum, ps⟩ := y
          simp only at *
          subst hpe
          generalize hpn : ps.length = pn at *
          clear hpn
          go_wp2_with fail
          refine F1.out.mono ?_
          rintro e w6 ⟨av, cv, rfl, p6, b6⟩
          obtain ⟨nb, ncw⟩ := NBM.out w6 av cv b6 p6
          obtain ⟨RF, SM⟩ := NFR.out w6.heap.size av cv
          have NBd := hid (And.intro (nb.1.next (Below.refl _ _).drew) (nb.2.next (Below.refl _ _).drew))
          have NCW := hid ncw
          clear nb ncw p6 b6 NBM NFR F1 HO5 k0 k1 k2 k3 k4
          go_wp2
          refine wp_region_held_drew (S := (fun w' => (w'.cell? ⟨w6.heap.size, 0, none⟩ = some (.int .i64 id) ∧ w'.cell? ⟨w6.heap.size, 1, none⟩ = some (.bool ma) ∧ w'.cell? ⟨w6.heap.size, 2, none⟩ = some (.int .i64 sz) ∧ w'.cell? ⟨w6.heap.size, 3, none⟩ = some (.string sum) ∧ w'.cell? ⟨w6.heap.size, 4, none⟩ = some (.slice av pn cv)) ∧ (w'.cell? ⟨bm, om + k * 5, none⟩ = some (.int .i64 id) ∧ w'.cell? ⟨bm, om + k * 5 + 1, none⟩ = some (.bool ma) ∧ w'.cell? ⟨bm, om + k * 5 + 2, none⟩ = some (.int .i64 sz) ∧ w'.cell? ⟨bm, om + k * 5 + 3, none⟩ = some (.string sum) ∧ w'.cell? ⟨bm, om + k * 5 + 4, none⟩ = some (.slice pa pn pc)))) (by kernel_rfl) NCW.out (fun hHeld => ?_)
          refine wpAnyH_take (i := 0) (v := ?vv15) rfl (by kernel_rfl) (by kernel_rfl) (by kernel_rfl) (fun _ _ _ h => h) (Or.inl ⟨by rfl, ?hy15⟩) (by assumption) ?rest15
          case hy15 => (intro w hSw; (try dsimp only at hSw); go_simp; first | done | with_reducible rfl)
          try simp only [Act.put, List.getElem_toArray, List.getElem_cons_succ, List.getElem_cons_zero, List.setIfInBounds_toArray, List.set_cons_zero, List.set_cons_succ]
          refine wpAnyH_take (i := 1) (v := ?vv16) rfl (by kernel_rfl) (by kernel_rfl) (by kernel_rfl) (fun _ _ _ h => h) (Or.inl ⟨by rfl, ?hy16⟩) (by assumption) ?rest16
          case hy16 => (intro w hSw; (try dsimp only at hSw); go_simp; first | done | with_reducible rfl)
          try simp only [Act.put, List.getElem_toArray, List.getElem_cons_succ, List.getElem_cons_zero, List.setIfInBounds_toArray, List.set_cons_zero, List.set_cons_succ]
          refine wpAnyH_take (i := 2) (v := ?vv17) rfl (by kernel_rfl) (by kernel_rfl) (by kernel_rfl) (fun _ _ _ h => h) (Or.inl ⟨by rfl, ?hy17⟩) (by assumption) ?rest17
          case hy17 => (intro w hSw; (try dsimp only at hSw); go_simp; first | done | with_reducible rfl)
          try simp only [Act.put, List.getElem_toArray, List.getElem_cons_succ, List.getElem_cons_zero, List.setIfInBounds_toArray, List.set_cons_zero, List.set_cons_succ]
          refine wpAnyH_take (i := 3) (v := ?vv18) rfl (by kernel_rfl) (by kernel_rfl) (by kernel_rfl) (fun _ _ _ h => h) (Or.inl ⟨by rfl, ?hy18⟩) (by assumption) ?rest18
          case hy18 => (intro w hSw; (try dsimp only at hSw); go_simp; first | done | with_reducible rfl)
          try simp only [Act.put, List.getElem_toArray, List.getElem_cons_succ, List.getElem_cons_zero, List.setIfInBounds_toArray, List.set_cons_zero, List.set_cons_succ]
          refine wpAnyH_take (i := 5) (v := ?vv19) rfl (by kernel_rfl) (by kernel_rfl) (by kernel_rfl) (fun _ _ _ h => h) (Or.inl ⟨by rfl, ?hy19⟩) (by assumption) ?rest19
          case hy19 => (intro w hSw; (try dsimp only at hSw); go_simp; first | done | with_reducible rfl)
          try simp only [Act.put, List.getElem_toArray, List.getElem_cons_succ, List.getElem_cons_zero, List.setIfInBounds_toArray, List.set_cons_zero, List.set_cons_succ]
          refine wpAnyH_take (i := 6) (v := ?vv20) rfl (by kernel_rfl) (by kernel_rfl) (by kernel_rfl) (fun _ _ _ h => h) (Or.inl ⟨by rfl, ?hy20⟩) (by assumption) ?rest20
          case hy20 => (intro w hSw; (try dsimp only at hSw); go_simp; first | done | with_reducible rfl)
          try simp only [Act.put, List.getElem_toArray, List.getElem_cons_succ, List.getElem_cons_zero, List.setIfInBounds_toArray, List.set_cons_zero, List.set_cons_succ]
          refine wpAnyH_take (i := 7) (v := ?vv21) rfl (by kernel_rfl) (by kernel_rfl) (by kernel_rfl) (fun _ _ _ h => h) (Or.inl ⟨by rfl, ?hy21⟩) (by assumption) ?rest21
          case hy21 => (intro w hSw; (try dsimp only at hSw); go_simp; first | done | with_reducible rfl)
          try simp only [Act.put, List.getElem_toArray, List.getElem_cons_succ, List.getElem_cons_zero, List.setIfInBounds_toArray, List.set_cons_zero, List.set_cons_succ]
          refine wpAnyH_take (i := 8) (v := ?vv22) rfl (by kernel_rfl) (by kernel_rfl) (by kernel_rfl) (fun _ _ _ h => h) (Or.inl ⟨by rfl, ?hy22⟩) (by assumption) ?rest22
          case hy22 => (intro w hSw; (try dsimp only at hSw); go_simp; first | done | with_reducible rfl)
          try simp only [Act.put, List.getElem_toArray, List.getElem_cons_succ, List.getElem_cons_zero, List.setIfInBounds_toArray, List.set_cons_zero, List.set_cons_succ]
          refine wpAnyH_ready (rs := [4]) (by kernel_rfl) (by simp) ?_
          refine AllReadyH.cons rfl (fun K hK => ?_) AllReadyH.nil
          go_simp
          refine (RF.out _ NBd.out).mono ?_
          rintro e wl ⟨adr, cpr, rfl, ZC1, NB1⟩
          go_wp2_with fail
          refine hK.out _ _ ZC1 (fun hHeld => ?_)
          clear hK K
          try simp only [Act.put, List.getElem_toArray, List.getElem_cons_succ, List.getElem_cons_zero, List.setIfInBounds_toArray, List.set_cons_zero, List.set_cons_succ]
          refine wpAnyH_ready (rs := [9]) (by kernel_rfl) (by simp) ?_
          refine AllReadyH.cons rfl (fun K hK => ?_) AllReadyH.nil
          go_simp
          refine (SM.out _ _ _ NB1.out).mono ?_
          rintro e wm ⟨rfl, ZC2, NB2⟩
          go_wp2_with fail
          refine hK.out _ _ ZC2 (fun hHeld => ?_)
          clear hK K
          try simp only [Act.put, List.getElem_toArray, List.getElem_cons_succ, List.getElem_cons_zero, List.setIfInBounds_toArray, List.set_cons_zero, List.set_cons_succ]
          refine wpAnyH_take (i := 10) (v := ?vv23) rfl (by kernel_rfl) (by kernel_rfl) (by kernel_rfl) (fun _ _ _ h => h) (Or.inl ⟨by rfl, ?hy23⟩) (by assumption) ?rest23
          case hy23 => (intro w hSw; (try dsimp only at hSw); go_simp; first | done | with_reducible rfl)
          try simp only [Act.put, List.getElem_toArray, List.getElem_cons_succ, List.getElem_cons_zero, List.setIfInBounds_toArray, List.set_cons_zero, List.set_cons_succ]
          refine wpAnyH_take (i := 11) (v := ?vv24) rfl (by kernel_rfl) (by kernel_rfl) (by kernel_rfl) (fun _ _ _ h => h) (Or.inl ⟨by rfl, ?hy24⟩) (by assumption) ?rest24
          case hy24 => (intro w hSw; (try dsimp only at hSw); go_simp; first | done | with_reducible rfl)
          try simp only [Act.put, List.getElem_toArray, List.getElem_cons_succ, List.getElem_cons_zero, List.setIfInBounds_toArray, List.set_cons_zero, List.set_cons_succ]
          refine wpAnyH_done (by kernel_rfl) ?_ _
          clear hHeld NBd RF SM NB1 NCW
          go_wp2
          go_roundg (qm4.length - (k + 1))
          case measure => have := HJ.out; have := HGJ.out; omega
          case rel => exact ⟨k + 1, HJ.out, Nat.le_refl _, by first | rw [hwj] | rfl | simp, NB2⟩
        · have c1 : decide ((k : Int) < (qm4.length : Int)) = false := decide_eq_false (by omega)
          have c2 : decide (k < qm4.length) = false := decide_eq_false hjl
          have L1 := hid (LT.out _ _ qc4 HO5.out.c.vn)
          unfold GiveO vnV at L1
          clear FN LT HFD hjl hj hgj
          by_cases h0 : qm4.length = 0
          · have hle := HR4.out.none h0
            have g5 : ((qm4.length : Int) == 0) = true := by rw [h0]; rfl
            have g6 : (qm4.length == 0) = true := by rw [h0]; rfl
            rw [hle] at L1
            clear hle HLN HL4 h0
            generalize latV (vqL qc4) = LV at *
            obtain ⟨i2, m2, z2, u2, s2⟩ := LV
            simp only at *
            generalize hsn : s2.length = n2 at *
            clear hsn
            go_wp2_with fail
            refine L1.out.mono ?_
            rintro e w6 ⟨av, cv, rfl, p6, b6⟩
            have O6 : Hid (NS w (.slice adc4 qc4.length cpc4) qc4 (.slice adm4 qm4.length cpm4) qm4 (w6.alloc (.cells #[.int .i64 i2, .bool m2, .int .i64 z2, .string u2, .slice av n2 cv] 24))) := (HO5.out.next b6).next (below_al (Below.refl _ _) _)
            clear p6 b6 L1 HO5
            go_wp2
            go_roundg (q.length - (i + 1))
            case measure => have := HLT.out; have := HG.out; omega
            case rel => exact ⟨i + 1, qc4, qm4, adc4, cpc4, adm4, cpm4, HLT.out, Nat.le_refl _, rfl, rfl, by first | rw [hwi] | rfl | simp, HR4, O6⟩
          · obtain ⟨j, hj⟩ : ∃ j, qm4.length = j + 1 := ⟨qm4.length - 1, by omega⟩
            have hj1 : j < qm4.length := by omega
            have g5 : ((qm4.length : Int) == 0) = false := beq_eq_false_iff_ne.2 (by omega)
            have g6 : (qm4.length == 0) = false := beq_eq_false_iff_ne.2 h0
            have hwl : wrap64 ((qm4.length : Int) - 1) = (j : Int) := by have := HL4.out; rw [IntWalk.wrap64_in _ (by omega)]; omega
            have j1 : (j : Int) < (qm4.length : Int) := by omega
            have j2 : (0 : Int) ≤ (j : Int) := by omega
            obtain ⟨le, lv⟩ := HR4.out.last (by omega)
            have ej : qm4[qm4.length - 1]'(by omega) = qm4[j] := by congr 1; omega
            rw [ej] at le lv
            rw [le] at L1
            have h512 := rlN_fd HR4.out hj1
            obtain ⟨bm, om, rfl, hcm⟩ := HO5.out.at j hj1
            have HMC : Hid (∀ w6, Below (World.heap wr).size wr w6 → (w6.cell? ⟨bm, om + j * 5, none⟩ = some (.int .i64 qm4[j].2.id) ∧ w6.cell? ⟨bm, om + j * 5 + 1, none⟩ = some (.bool qm4[j].2.ma) ∧ w6.cell? ⟨bm, om + j * 5 + 2, none⟩ = some (.int .i64 qm4[j].2.sz) ∧ w6.cell? ⟨bm, om + j * 5 + 3, none⟩ = some (.string qm4[j].2.sum) ∧ w6.cell? ⟨bm, om + j * 5 + 4, none⟩ = some qm4[j].1) ∧ PcI w6 qm4[j].1 qm4[j].2.ps) := fun w6 hb => hcm _ (HO5.out.next hb)
            obtain ⟨-, kp⟩ := hcm _ HO5.out
            obtain ⟨pa, pc, hpe⟩ := kp.sl
            have NBL : Hid (∀ (w6 : World) (v1 : Value) (x1 : Vn), Below (World.heap wr).size wr w6 → PcI w6 v1 x1.ps → (NS w (.slice adc4 qc4.length cpc4) qc4 (.slice (some ⟨bm, om, none⟩) qm4.length cpm4) qm4 ((w6.alloc (.cells #[.int .i64 x1.id, .bool x1.ma, .int .i64 x1.sz, .string x1.sum, v1] 24)).alloc (.cells #[.int .i64 qm4[j].2.id, .bool qm4[j].2.ma, .int .i64 qm4[j].2.sz, .string qm4[j].2.sum, qm4[j].1] 36)) ∧ VB w6.heap.size 24 v1 x1 ((w6.alloc (.cells #[.int .i64 x1.id, .bool x1.ma, .int .i64 x1.sz, .string x1.sum, v1] 24)).alloc (.cells #[.int .i64 qm4[j].2.id, .bool qm4[j].2.ma, .int .i64 qm4[j].2.sz, .string qm4[j].2.sum, qm4[j].1] 36)) ∧ VB (w6.heap.size + 1) 36 qm4[j].1 qm4[j].2 ((w6.alloc (.cells #[.int .i64 x1.id, .bool x1.ma, .int .i64 x1.sz, .string x1.sum, v1] 24)).alloc (.cells #[.int .i64 qm4[j].2.id, .bool qm4[j].2.ma, .int .i64 qm4[j].2.sz, .string qm4[j].2.sum, qm4[j].1] 36)))) := fun w6 v1 x1 hb hp => by
              have a1 : Below w6.heap.size w6 (w6.alloc (.cells #[.int .i64 x1.id, .bool x1.ma, .int .i64 x1.sz, .string x1.sum, v1] 24)) := below_al (Below.refl _ _) _
              have a2 : Below (w6.alloc (.cells #[.int .i64 x1.id, .bool x1.ma, .int .i64 x1.sz, .string x1.sum, v1] 24)).heap.size (w6.alloc (.cells #[.int .i64 x1.id, .bool x1.ma, .int .i64 x1.sz, .string x1.sum, v1] 24)) ((w6.alloc (.cells #[.int .i64 x1.id, .bool x1.ma, .int .i64 x1.sz, .string x1.sum, v1] 24)).alloc (.cells #[.int .i64 qm4[j].2.id, .bool qm4[j].2.ma, .int .i64 qm4[j].2.sz, .string qm4[j].2.sum, qm4[j].1] 36)) := below_al (Below.refl _ _) _
              have h1 := HO5.out.next hb
              have h2 := VB.made w6 24 v1 x1 hp
              have h3 := VB.made (w6.alloc (.cells #[.int .i64 x1.id, .bool x1.ma, .int .i64 x1.sz, .string x1.sum, v1] 24)) 36 qm4[j].1 qm4[j].2 ((hcm _ h1).2.next a1)
              have hsz : (w6.alloc (.cells #[.int .i64 x1.id, .bool x1.ma, .int .i64 x1.sz, .string x1.sum, v1] 24)).heap.size = w6.heap.size + 1 := by simp
              rw [hsz] at h3
              exact ⟨(h1.next a1).next a2, h2.next a2, h3⟩
            have NLL := hid (fun g1 g2 av cv => newest_last w g1 g2 av cv qm4[j].1 qm4[j].2 h512 (fun W => NS w (.slice adc4 qc4.length cpc4) qc4 (.slice (some ⟨bm, om, none⟩) qm4.length cpm4) qm4 W) (fun W W' h hb => h.next hb))
            have HLV := hid lv
            clear lv le ej hcm kp HLN HL4 h0 HO5
            generalize qm4[j] = y at *
            clear hj hj1 h512
            obtain ⟨pv, id, ma, sz, sum, ps⟩ := y
            simp only at *
            subst hpe
            generalize hpn : ps.length = pn at *
            cases ma
            · have hlv : latV (vqL qc4) = ⟨id, false, sz, sum, ps⟩ := by rw [HLV.out]; simp
              rw [hlv] at L1
              clear HLV hlv
              simp only [hpn, Bool.false_eq_true, if_false] at L1
              clear hpn
              go_wp2_with fail
              refine L1.out.mono ?_
              rintro e w6 ⟨av, cv, rfl, p6, b6⟩
              obtain ⟨n1, n2, n3⟩ := NBL.out w6 (.slice av pn cv) ⟨id, false, sz, sum, ps⟩ b6 p6
              obtain ⟨⟨k0, k1, k2, k3, k4⟩, -⟩ := HMC.out _ (below_al b6 (.cells #[.int .i64 id, .bool false, .int .i64 sz, .string sum, .slice av pn cv] 24))
              obtain ⟨RF, SM⟩ := NLL.out w6.heap.size (w6.heap.size + 1) av cv
              have NBd := hid (And.intro (n1.next (Below.refl _ _).drew) (And.intro (n2.next (Below.refl _ _).drew) (n3.next (Below.refl _ _).drew)))
              have NCW := hid (And.intro n2.cells n3.cells)
              clear n1 n2 n3 p6 b6 NBL NLL L1 HMC
              go_wp2
              refine wp_region_held_drew (S := (fun w' => (w'.cell? ⟨w6.heap.size, 0, none⟩ = some (.int .i64 id) ∧ w'.cell? ⟨w6.heap.size, 1, none⟩ = some (.bool false) ∧ w'.cell? ⟨w6.heap.size, 2, none⟩ = some (.int .i64 sz) ∧ w'.cell? ⟨w6.heap.size, 3, none⟩ = some (.string sum) ∧ w'.cell? ⟨w6.heap.size, 4, none⟩ = some (.slice av pn cv)) ∧ (w'.cell? ⟨(w6.heap.size + 1), 0, none⟩ = some (.int .i64 id) ∧ w'.cell? ⟨(w6.heap.size + 1), 1, none⟩ = some (.bool false) ∧ w'.cell? ⟨(w6.heap.size + 1), 2, none⟩ = some (.int .i64 sz) ∧ w'.cell? ⟨(w6.heap.size + 1), 3, none⟩ = some (.string sum) ∧ w'.cell? ⟨(w6.heap.size + 1), 4, none⟩ = some (.slice pa pn pc)))) (by kernel_rfl) NCW.out (fun hHeld => ?_)
              refine wpAnyH_take (i := 0) (v := ?vv25) rfl (by kernel_rfl) (by kernel_rfl) (by kernel_rfl) (fun _ _ _ h => h) (Or.inl ⟨by rfl, ?hy25⟩) (by assumption) ?rest25
              case hy25 => (intro w hSw; (try dsimp only at hSw); go_simp; first | done | with_reducible rfl)
              try simp only [Act.put, List.getElem_toArray, List.getElem_cons_succ, List.getElem_cons_zero, List.setIfInBounds_toArray, List.set_cons_zero, List.set_cons_succ]
              refine wpAnyH_take (i := 1) (v := ?vv26) rfl (by kernel_rfl) (by kernel_rfl) (by kernel_rfl) (fun _ _ _ h => h) (Or.inl ⟨by rfl, ?hy26⟩) (by assumption) ?rest26
              case hy26 => (intro w hSw; (try dsimp only at hSw); go_simp; first | done | with_reducible rfl)
              try simp only [Act.put, List.getElem_toArray, List.getElem_cons_succ, List.getElem_cons_zero, List.setIfInBounds_toArray, List.set_cons_zero, List.set_cons_succ]
              refine wpAnyH_take (i := 2) (v := ?vv27) rfl (by kernel_rfl) (by kernel_rfl) (by kernel_rfl) (fun _ _ _ h => h) (Or.inl ⟨by rfl, ?hy27⟩) (by assumption) ?rest27
              case hy27 => (intro w hSw; (try dsimp only at hSw); go_simp; first | done | with_reducible rfl)
              try simp only [Act.put, List.getElem_toArray, List.getElem_cons_succ, List.getElem_cons_zero, List.setIfInBounds_toArray, List.set_cons_zero, List.set_cons_succ]
              refine wpAnyH_take (i := 3) (v := ?vv28) rfl (by kernel_rfl) (by kernel_rfl) (by kernel_rfl) (fun _ _ _ h => h) (Or.inl ⟨by rfl, ?hy28⟩) (by assumption) ?rest28
              case hy28 => (intro w hSw; (try dsimp only at hSw); go_simp; first | done | with_reducible rfl)
              try simp only [Act.put, List.getElem_toArray, List.getElem_cons_succ, List.getElem_cons_zero, List.setIfInBounds_toArray, List.set_cons_zero, List.set_cons_succ]
              refine wpAnyH_take (i := 4) (v := ?vv29) rfl (by kernel_rfl) (by kernel_rfl) (by kernel_rfl) (fun _ _ _ h => h) (Or.inl ⟨by rfl, ?hy29⟩) (by assumption) ?rest29
              case hy29 => (intro w hSw; (try dsimp only at hSw); go_simp; first | done | with_reducible rfl)
              try simp only [Act.put, List.getElem_toArray, List.getElem_cons_succ, List.getElem_cons_zero, List.setIfInBounds_toArray, List.set_cons_zero, List.set_cons_succ]
              refine wpAnyH_take (i := 5) (v := ?vv30) rfl (by kernel_rfl) (by kernel_rfl) (by kernel_rfl) (fun _ _ _ h => h) (Or.inl ⟨by rfl, ?hy30⟩) (by assumption) ?rest30
              case hy30 => (intro w hSw; (try dsimp only at hSw); go_simp; first | done | with_reducible rfl)
              try simp only [Act.put, List.getElem_toArray, List.getElem_cons_succ, List.getElem_cons_zero, List.setIfInBounds_toArray, List.set_cons_zero, List.set_cons_succ]
              refine wpAnyH_take (i := 6) (v := ?vv31) rfl (by kernel_rfl) (by kernel_rfl) (by kernel_rfl) (fun _ _ _ h => h) (Or.inl ⟨by rfl, ?hy31⟩) (by assumption) ?rest31
              case hy31 => (intro w hSw; (try dsimp only at hSw); go_simp; first | done | with_reducible rfl)
              try simp only [Act.put, List.getElem_toArray, List.getElem_cons_succ, List.getElem_cons_zero, List.setIfInBounds_toArray, List.set_cons_zero, List.set_cons_succ]
              refine wpAnyH_take (i := 7) (v := ?vv32) rfl (by kernel_rfl) (by kernel_rfl) (by kernel_rfl) (fun _ _ _ h => h) (Or.inl ⟨by rfl, ?hy32⟩) (by assumption) ?rest32
              case hy32 => (intro w hSw; (try dsimp only at hSw); go_simp; first | done | with_reducible rfl)
              try simp only [Act.put, List.getElem_toArray, List.getElem_cons_succ, List.getElem_cons_zero, List.setIfInBounds_toArray, List.set_cons_zero, List.set_cons_succ]
              refine wpAnyH_take (i := 8) (v := ?vv33) rfl (by kernel_rfl) (by kernel_rfl) (by kernel_rfl) (fun _ _ _ h => h) (Or.inl ⟨by rfl, ?hy33⟩) (by assumption) ?rest33
              case hy33 => (intro w hSw; (try dsimp only at hSw); go_simp; first | done | with_reducible rfl)
              try simp only [Act.put, List.getElem_toArray, List.getElem_cons_succ, List.getElem_cons_zero, List.setIfInBounds_toArray, List.set_cons_zero, List.set_cons_succ]
              refine wpAnyH_take (i := 9) (v := ?vv34) rfl (by kernel_rfl) (by kernel_rfl) (by kernel_rfl) (fun _ _ _ h => h) (Or.inl ⟨by rfl, ?hy34⟩) (by assumption) ?rest34
              case hy34 => (intro w hSw; (try dsimp only at hSw); go_simp; first | done | with_reducible rfl)
              try simp only [Act.put, List.getElem_toArray, List.getElem_cons_succ, List.getElem_cons_zero, List.setIfInBounds_toArray, List.set_cons_zero, List.set_cons_succ]
              refine wpAnyH_take (i := 10) (v := ?vv35) rfl (by kernel_rfl) (by kernel_rfl) (by kernel_rfl) (fun _ _ _ h => h) (Or.inl ⟨by rfl, ?hy35⟩) (by assumption) ?rest35
              case hy35 => (intro w hSw; (try dsimp only at hSw); go_simp; first | done | with_reducible rfl)
              try simp only [Act.put, List.getElem_toArray, List.getElem_cons_succ, List.getElem_cons_zero, List.setIfInBounds_toArray, List.set_cons_zero, List.set_cons_succ]
              refine wpAnyH_take (i := 11) (v := ?vv36) rfl (by kernel_rfl) (by kernel_rfl) (by kernel_rfl) (fun _ _ _ h => h) (Or.inl ⟨by rfl, ?hy36⟩) (by assumption) ?rest36
              case hy36 => (intro w hSw; (try dsimp only at hSw); go_simp; first | done | with_reducible rfl)
              try simp only [Act.put, List.getElem_toArray, List.getElem_cons_succ, List.getElem_cons_zero, List.setIfInBounds_toArray, List.set_cons_zero, List.set_cons_succ]
              refine wpAnyH_take (i := 12) (v := ?vv37) rfl (by kernel_rfl) (by kernel_rfl) (by kernel_rfl) (fun _ _ _ h => h) (Or.inl ⟨by rfl, ?hy37⟩) (by assumption) ?rest37
              case hy37 => (intro w hSw; (try dsimp only at hSw); go_simp; first | done | with_reducible rfl)
              try simp only [Act.put, List.getElem_toArray, List.getElem_cons_succ, List.getElem_cons_zero, List.setIfInBounds_toArray, List.set_cons_zero, List.set_cons_succ]
              refine wpAnyH_take (i := 13) (v := ?vv38) rfl (by kernel_rfl) (by kernel_rfl) (by kernel_rfl) (fun _ _ _ h => h) (Or.inl ⟨by rfl, ?hy38⟩) (by assumption) ?rest38
              case hy38 => (intro w hSw; (try dsimp only at hSw); go_simp; first | done | with_reducible rfl)
              try simp only [Act.put, List.getElem_toArray, List.getElem_cons_succ, List.getElem_cons_zero, List.setIfInBounds_toArray, List.set_cons_zero, List.set_cons_succ]
              refine wpAnyH_take (i := 15) (v := ?vv39) rfl (by kernel_rfl) (by kernel_rfl) (by kernel_rfl) (fun _ _ _ h => h) (Or.inl ⟨by rfl, ?hy39⟩) (by assumption) ?rest39
              case hy39 => (intro w hSw; (try dsimp only at hSw); go_simp; first | done | with_reducible rfl)
              try simp only [Act.put, List.getElem_toArray, List.getElem_cons_succ, List.getElem_cons_zero, List.setIfInBounds_toArray, List.set_cons_zero, List.set_cons_succ]
              refine wpAnyH_ready (rs := [14]) (by kernel_rfl) (by simp) ?_
              refine AllReadyH.cons rfl (fun K hK => ?_) AllReadyH.nil
              go_simp
              refine (RF.out _ NBd.out).mono ?_
              rintro e wl ⟨adr, cpr, rfl, ZC1, NB1⟩
              go_wp2_with fail
              refine hK.out _ _ ZC1 (fun hHeld => ?_)
              clear hK K
              try simp only [Act.put, List.getElem_toArray, List.getElem_cons_succ, List.getElem_cons_zero, List.setIfInBounds_toArray, List.set_cons_zero, List.set_cons_succ]
              refine wpAnyH_ready (rs := [16]) (by kernel_rfl) (by simp) ?_
              refine AllReadyH.cons rfl (fun K hK => ?_) AllReadyH.nil
              go_simp
              refine (SM.out _ _ _ NB1.out).mono ?_
              rintro e wm ⟨rfl, ZC2, NB2⟩
              go_wp2_with fail
              refine hK.out _ _ ZC2 (fun hHeld => ?_)
              clear hK K
              try simp only [Act.put, List.getElem_toArray, List.getElem_cons_succ, List.getElem_cons_zero, List.setIfInBounds_toArray, List.set_cons_zero, List.set_cons_succ]
              refine wpAnyH_take (i := 17) (v := ?vv40) rfl (by kernel_rfl) (by kernel_rfl) (by kernel_rfl) (fun _ _ _ h => h) (Or.inl ⟨by rfl, ?hy40⟩) (by assumption) ?rest40
              case hy40 => (intro w hSw; (try dsimp only at hSw); go_simp; first | done | with_reducible rfl)
              try simp only [Act.put, List.getElem_toArray, List.getElem_cons_succ, List.getElem_cons_zero, List.setIfInBounds_toArray, List.set_cons_zero, List.set_cons_succ]
              refine wpAnyH_take (i := 18) (v := ?vv41) rfl (by kernel_rfl) (by kernel_rfl) (by kernel_rfl) (fun _ _ _ h => h) (Or.inl ⟨by rfl, ?hy41⟩) (by assumption) ?rest41
              case hy41 => (intro w hSw; (try dsimp only at hSw); go_simp; first | done | with_reducible rfl)
              try simp only [Act.put, List.getElem_toArray, List.getElem_cons_succ, List.getElem_cons_zero, List.setIfInBounds_toArray, List.set_cons_zero, List.set_cons_succ]
              refine wpAnyH_take (i := 19) (v := ?vv42) rfl (by kernel_rfl) (by kernel_rfl) (by kernel_rfl) (fun _ _ _ h => h) (Or.inl ⟨by rfl, ?hy42⟩) (by assumption) ?rest42
              case hy42 => (intro w hSw; (try dsimp only at hSw); go_simp; first | done | with_reducible rfl)
              try simp only [Act.put, List.getElem_toArray, List.getElem_cons_succ, List.getElem_cons_zero, List.setIfInBounds_toArray, List.set_cons_zero, List.set_cons_succ]
              refine wpAnyH_take (i := 20) (v := ?vv43) rfl (by kernel_rfl) (by kernel_rfl) (by kernel_rfl) (fun _ _ _ h => h) (Or.inl ⟨by rfl, ?hy43⟩) (by assumption) ?rest43
              case hy43 => (intro w hSw; (try dsimp only at hSw); go_simp; first | done | with_reducible rfl)
              try simp only [Act.put, List.getElem_toArray, List.getElem_cons_succ, List.getElem_cons_zero, List.setIfInBounds_toArray, List.set_cons_zero, List.set_cons_succ]
              refine wpAnyH_done (by kernel_rfl) ?_ _
              clear hHeld NBd RF SM NB1 NCW
              go_wp2
              go_roundg (q.length - (i + 1))
              case measure => have := HLT.out; have := HG.out; omega
              case rel => exact ⟨i + 1, qc4, qm4, adc4, cpc4, some ⟨bm, om, none⟩, cpm4, HLT.out, Nat.le_refl _, rfl, rfl, by first | rw [hwi] | rfl | simp, HR4, NB2⟩
            · clear HLV hpn NLL
              simp only [if_true] at L1
              generalize latV (vqL qc4) = LV at *
              obtain ⟨i2, m2, z2, u2, s2⟩ := LV
              simp only at *
              generalize hsn : s2.length = n2 at *
              clear hsn
              go_wp2_with fail
              refine L1.out.mono ?_
              rintro e w6 ⟨av, cv, rfl, p6, b6⟩
              obtain ⟨n1, n2', n3⟩ := NBL.out w6 (.slice av n2 cv) ⟨i2, m2, z2, u2, s2⟩ b6 p6
              obtain ⟨⟨k0, k1, k2, k3, k4⟩, -⟩ := HMC.out _ (below_al b6 (.cells #[.int .i64 i2, .bool m2, .int .i64 z2, .string u2, .slice av n2 cv] 24))
              have NSd := hid (n1.next (Below.refl _ _).drew)
              have NCW := hid (And.intro n2'.cells n3.cells)
              clear n1 n2' n3 p6 b6 NBL L1 HMC
              go_wp2
              refine wp_region_held_drew (S := (fun w' => (w'.cell? ⟨w6.heap.size, 0, none⟩ = some (.int .i64 i2) ∧ w'.cell? ⟨w6.heap.size, 1, none⟩ = some (.bool m2) ∧ w'.cell? ⟨w6.heap.size, 2, none⟩ = some (.int .i64 z2) ∧ w'.cell? ⟨w6.heap.size, 3, none⟩ = some (.string u2) ∧ w'.cell? ⟨w6.heap.size, 4, none⟩ = some (.slice av n2 cv)) ∧ (w'.cell? ⟨(w6.heap.size + 1), 0, none⟩ = some (.int .i64 id) ∧ w'.cell? ⟨(w6.heap.size + 1), 1, none⟩ = some (.bool true) ∧ w'.cell? ⟨(w6.heap.size + 1), 2, none⟩ = some (.int .i64 sz) ∧ w'.cell? ⟨(w6.heap.size + 1), 3, none⟩ = some (.string sum) ∧ w'.cell? ⟨(w6.heap.size + 1), 4, none⟩ = some (.slice pa pn pc)))) (by kernel_rfl) NCW.out (fun hHeld => ?_)
              refine wpAnyH_take (i := 0) (v := ?vv44) rfl (by kernel_rfl) (by kernel_rfl) (by kernel_rfl) (fun _ _ _ h => h) (Or.inl ⟨by rfl, ?hy44⟩) (by assumption) ?rest44
              case hy44 => (intro w hSw; (try dsimp only at hSw); go_simp; first | done | with_reducible rfl)
              try simp only [Act.put, List.getElem_toArray, List.getElem_cons_succ, List.getElem_cons_zero, List.setIfInBounds_toArray, List.set_cons_zero, List.set_cons_succ]
              refine wpAnyH_take (i := 1) (v := ?vv45) rfl (by kernel_rfl) (by kernel_rfl) (by kernel_rfl) (fun _ _ _ h => h) (Or.inl ⟨by rfl, ?hy45⟩) (by assumption) ?rest45
              case hy45 => (intro w hSw; (try dsimp only at hSw); go_simp; first | done | with_reducible rfl)
              try simp only [Act.put, List.getElem_toArray, List.getElem_cons_succ, List.getElem_cons_zero, List.setIfInBounds_toArray, List.set_cons_zero, List.set_cons_succ]
              refine wpAnyH_take (i := 2) (v := ?vv46) rfl (by kernel_rfl) (by kernel_rfl) (by kernel_rfl) (fun _ _ _ h => h) (Or.inl ⟨by rfl, ?hy46⟩) (by assumption) ?rest46
              case hy46 => (intro w hSw; (try dsimp only at hSw); go_simp; first | done | with_reducible rfl)
              try simp only [Act.put, List.getElem_toArray, List.getElem_cons_succ, List.getElem_cons_zero, List.setIfInBounds_toArray, List.set_cons_zero, List.set_cons_succ]
              refine wpAnyH_take (i := 3) (v := ?vv47) rfl (by kernel_rfl) (by kernel_rfl) (by kernel_rfl) (fun _ _ _ h => h) (Or.inl ⟨by rfl, ?hy47⟩) (by assumption) ?rest47
              case hy47 => (intro w hSw; (try dsimp only at hSw); go_simp; first | done | with_reducible rfl)
              try simp only [Act.put, List.getElem_toArray, List.getElem_cons_succ, List.getElem_cons_zero, List.setIfInBounds_toArray, List.set_cons_zero, List.set_cons_succ]
              refine wpAnyH_take (i := 4) (v := ?vv48) rfl (by kernel_rfl) (by kernel_rfl) (by kernel_rfl) (fun _ _ _ h => h) (Or.inl ⟨by rfl, ?hy48⟩) (by assumption) ?rest48
              case hy48 => (intro w hSw; (try dsimp only at hSw); go_simp; first | done | with_reducible rfl)
              try simp only [Act.put, List.getElem_toArray, List.getElem_cons_succ, List.getElem_cons_zero, List.setIfInBounds_toArray, List.set_cons_zero, List.set_cons_succ]
              refine wpAnyH_take (i := 5) (v := ?vv49) rfl (by kernel_rfl) (by kernel_rfl) (by kernel_rfl) (fun _ _ _ h => h) (Or.inl ⟨by rfl, ?hy49⟩) (by assumption) ?rest49
              case hy49 => (intro w hSw; (try dsimp only at hSw); go_simp; first | done | with_reducible rfl)
              try simp only [Act.put, List.getElem_toArray, List.getElem_cons_succ, List.getElem_cons_zero, List.setIfInBounds_toArray, List.set_cons_zero, List.set_cons_succ]
              refine wpAnyH_take (i := 6) (v := ?vv50) rfl (by kernel_rfl) (by kernel_rfl) (by kernel_rfl) (fun _ _ _ h => h) (Or.inl ⟨by rfl, ?hy50⟩) (by assumption) ?rest50
              case hy50 => (intro w hSw; (try dsimp only at hSw); go_simp; first | done | with_reducible rfl)
              try simp only [Act.put, List.getElem_toArray, List.getElem_cons_succ, List.getElem_cons_zero, List.setIfInBounds_toArray, List.set_cons_zero, List.set_cons_succ]
              refine wpAnyH_take (i := 7) (v := ?vv51) rfl (by kernel_rfl) (by kernel_rfl) (by kernel_rfl) (fun _ _ _ h => h) (Or.inl ⟨by rfl, ?hy51⟩) (by assumption) ?rest51
              case hy51 => (intro w hSw; (try dsimp only at hSw); go_simp; first | done | with_reducible rfl)
              try simp only [Act.put, List.getElem_toArray, List.getElem_cons_succ, List.getElem_cons_zero, List.setIfInBounds_toArray, List.set_cons_zero, List.set_cons_succ]
              refine wpAnyH_take (i := 8) (v := ?vv52) rfl (by kernel_rfl) (by kernel_rfl) (by kernel_rfl) (fun _ _ _ h => h) (Or.inl ⟨by rfl, ?hy52⟩) (by assumption) ?rest52
              case hy52 => (intro w hSw; (try dsimp only at hSw); go_simp; first | done | with_reducible rfl)
              try simp only [Act.put, List.getElem_toArray, List.getElem_cons_succ, List.getElem_cons_zero, List.setIfInBounds_toArray, List.set_cons_zero, List.set_cons_succ]
              refine wpAnyH_take (i := 9) (v := ?vv53) rfl (by kernel_rfl) (by kernel_rfl) (by kernel_rfl) (fun _ _ _ h => h) (Or.inl ⟨by rfl, ?hy53⟩) (by assumption) ?rest53
              case hy53 => (intro w hSw; (try dsimp only at hSw); go_simp; first | done | with_reducible rfl)
              try simp only [Act.put, List.getElem_toArray, List.getElem_cons_succ, List.getElem_cons_zero, List.setIfInBounds_toArray, List.set_cons_zero, List.set_cons_succ]
              refine wpAnyH_take (i := 10) (v := undef) rfl (by kernel_rfl) (by kernel_rfl) (by kernel_rfl) (fun _ _ _ h => h) (Or.inr ⟨by rfl, rfl⟩) (by assumption) ?_
              try simp only [Act.put, List.getElem_toArray, List.getElem_cons_succ, List.getElem_cons_zero, List.setIfInBounds_toArray, List.set_cons_zero, List.set_cons_succ]
              refine wpAnyH_take (i := 11) (v := undef) rfl (by kernel_rfl) (by kernel_rfl) (by kernel_rfl) (fun _ _ _ h => h) (Or.inr ⟨by rfl, rfl⟩) (by assumption) ?_
              try simp only [Act.put, List.getElem_toArray, List.getElem_cons_succ, List.getElem_cons_zero, List.setIfInBounds_toArray, List.set_cons_zero, List.set_cons_succ]
              refine wpAnyH_take (i := 12) (v := undef) rfl (by kernel_rfl) (by kernel_rfl) (by kernel_rfl) (fun _ _ _ h => h) (Or.inr ⟨by rfl, rfl⟩) (by assumption) ?_
              try simp only [Act.put, List.getElem_toArray, List.getElem_cons_succ, List.getElem_cons_zero, List.setIfInBounds_toArray, List.set_cons_zero, List.set_cons_succ]
              refine wpAnyH_take (i := 13) (v := undef) rfl (by kernel_rfl) (by kernel_rfl) (by kernel_rfl) (fun _ _ _ h => h) (Or.inr ⟨by rfl, rfl⟩) (by assumption) ?_
              try simp only [Act.put, List.getElem_toArray, List.getElem_cons_succ, List.getElem_cons_zero, List.setIfInBounds_toArray, List.set_cons_zero, List.set_cons_succ]
              refine wpAnyH_take (i := 14) (v := undef) rfl (by kernel_rfl) (by kernel_rfl) (by kernel_rfl) (fun _ _ _ h => h) (Or.inr ⟨by rfl, rfl⟩) (by assumption) ?_
              try simp only [Act.put, List.getElem_toArray, List.getElem_cons_succ, List.getElem_cons_zero, List.setIfInBounds_toArray, List.set_cons_zero, List.set_cons_succ]
              refine wpAnyH_take (i := 15) (v := undef) rfl (by kernel_rfl) (by kernel_rfl) (by kernel_rfl) (fun _ _ _ h => h) (Or.inr ⟨by rfl, rfl⟩) (by assumption) ?_
              try simp only [Act.put, List.getElem_toArray, List.getElem_cons_succ, List.getElem_cons_zero, List.setIfInBounds_toArray, List.set_cons_zero, List.set_cons_succ]
              refine wpAnyH_take (i := 16) (v := undef) rfl (by kernel_rfl) (by kernel_rfl) (by kernel_rfl) (fun _ _ _ h => h) (Or.inr ⟨by rfl, rfl⟩) (by assumption) ?_
              try simp only [Act.put, List.getElem_toArray, List.getElem_cons_succ, List.getElem_cons_zero, List.setIfInBounds_toArray, List.set_cons_zero, List.set_cons_succ]
              refine wpAnyH_take (i := 17) (v := undef) rfl (by kernel_rfl) (by kernel_rfl) (by kernel_rfl) (fun _ _ _ h => h) (Or.inr ⟨by rfl, rfl⟩) (by assumption) ?_
              try simp only [Act.put, List.getElem_toArray, List.getElem_cons_succ, List.getElem_cons_zero, List.setIfInBounds_toArray, List.set_cons_zero, List.set_cons_succ]
              refine wpAnyH_take (i := 18) (v := undef) rfl (by kernel_rfl) (by kernel_rfl) (by kernel_rfl) (fun _ _ _ h => h) (Or.inr ⟨by rfl, rfl⟩) (by assumption) ?_
              try simp only [Act.put, List.getElem_toArray, List.getElem_cons_succ, List.getElem_cons_zero, List.setIfInBounds_toArray, List.set_cons_zero, List.set_cons_succ]
              refine wpAnyH_take (i := 19) (v := ?vv54) rfl (by kernel_rfl) (by kernel_rfl) (by kernel_rfl) (fun _ _ _ h => h) (Or.inl ⟨by rfl, ?hy54⟩) (by assumption) ?rest54
              case hy54 => (intro w hSw; (try dsimp only at hSw); go_simp; first | done | with_reducible rfl)
              try simp only [Act.put, List.getElem_toArray, List.getElem_cons_succ, List.getElem_cons_zero, List.setIfInBounds_toArray, List.set_cons_zero, List.set_cons_succ]
              refine wpAnyH_take (i := 20) (v := ?vv55) rfl (by kernel_rfl) (by kernel_rfl) (by kernel_rfl) (fun _ _ _ h => h) (Or.inl ⟨by rfl, ?hy55⟩) (by assumption) ?rest55
              case hy55 => (intro w hSw; (try dsimp only at hSw); go_simp; first | done | with_reducible rfl)
              try simp only [Act.put, List.getElem_toArray, List.getElem_cons_succ, List.getElem_cons_zero, List.setIfInBounds_toArray, List.set_cons_zero, List.set_cons_succ]
              refine wpAnyH_done (by kernel_rfl) ?_ _
              clear hHeld NCW
              go_wp2
              go_roundg (q.length - (i + 1))
              case measure => have := HLT.out; have := HG.out; omega
              case rel => exact ⟨i + 1, qc4, qm4, adc4, cpc4, some ⟨bm, om, none⟩, cpm4, HLT.out, Nat.le_refl _, rfl, rfl, by first | rw [hwi] | rfl | simp, HR4, NSd⟩
end Go.Proofs.Ytbiapepalkdkdaa
