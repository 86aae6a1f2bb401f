/- The walk of the law ChainPuts. -/
import Derived.Test.YtbiapepalkdkdaaCvZ
import Derived.Test.YtbiapepalkdkdaaJoined09
namespace Go.Proofs.Ytbiapepalkdkdaa
open Go.RowKit Go.Maps
set_option linter.unusedVariables false
set_option linter.unusedSimpArgs false

theorem vn_mem {q : List (Value × Vn)} {l : List Vn} (h : vqL q = l) {y : Value × Vn} (hy : y ∈ q) : y.2 ∈ l := by rw [← h]; exact vq_mem hy
theorem vn_len {q : List (Value × Vn)} {l : List Vn} (h : vqL q = l) : q.length = l.length := by rw [← h, vqL_len]
theorem SzQ.of {q q' : List (Value × Vn)} (h : SzQ q) (e : vqL q' = vqL q) : SzQ q' := by
  refine ⟨by rw [← vqL_len, e, vqL_len]; exact h.1, fun y hy => ?_⟩
  obtain ⟨z, hz, hzy⟩ := List.mem_map.1 (vn_mem e hy)
  have := h.2 z hz
  rw [hzy] at this
  exact this
/-- versions that may be, at most 33 -/
def Few (l : List Vn) : Prop := l.length ≤ 33 ∧ ∀ v ∈ l, vnOk v = true
theorem Few.nil : Few [] := ⟨by simp, fun v hv => by cases hv⟩
theorem few_put (l : List Vn) (x : Vn) : Few (putL l x) := by
  unfold putL
  split
  · rename_i h
    unfold putE at h
    split at h
    · rename_i hh
      have h1 := isCh_len hh.1
      refine ⟨by simp; omega, fun v hv => ?_⟩
      rcases List.mem_cons.1 hv with e | e
      · rw [e]; exact hh.2
      · exact isCh_all hh.1 v e
    · cases h
  · exact Few.nil
theorem few_drop (l : List Vn) (n : Int) : Few (drL l n) := by
  unfold drL
  rcases pl_cases l n with ⟨_, h, _⟩ | ⟨_, h, _⟩ | ⟨h1, j, h, _⟩
  · rw [h]; exact Few.nil
  · rw [h]; exact Few.nil
  · rw [h]
    have h2 := isCh_len h1
    refine ⟨by simp; omega, fun v hv => ?_⟩
    rcases List.mem_append.1 hv with e | e
    · exact isCh_all h1 v (List.mem_of_mem_take e)
    · exact isCh_all h1 v (List.mem_of_mem_drop e)
/-- the law's copy of few versions, held against others -/
theorem refs_few (v : Value) (q : List (Value × Vn)) (l : List Vn) (w : World) (hv : VnI w v q) (he : vqL q = l) (hf : Few l) : Calls Try.prog 18 #[v] w (fun e w' => ∃ ad n cap q', e = .returned (.slice ad n cap) ∧ Hid (VnI w' (.slice ad n cap) q' ∧ vqL q' = l) ∧ Hid (Below w.heap.size w w')) :=
  (lrefs_any v q w hv (by rw [vn_len he]; have := hf.1; omega) (fun y hy => by have := (vnOk_ps (hf.2 _ (vn_mem he hy))).1; omega)).mono fun e w' ⟨ad, cap, q', h1, h2, h3, h4⟩ => ⟨ad, _, cap, q', h1, ⟨h3.vn, by rw [h2, he]⟩, h4⟩
theorem alike_few (v1 v2 : Value) (q1 q2 : List (Value × Vn)) (l : List Vn) (w : World) (h1 : VnI w v1 q1) (h2 : VnI w v2 q2) (e1 : vqL q1 = l) (e2 : vqL q2 = l) (hf : Few l) : Calls Try.prog 21 #[v1, v2] w (fun e w' => e = .returned (.bool true) ∧ Below w.heap.size w w') :=
  ralike_true v1 v2 q1 q2 w h1 h2 (by rw [e1, e2]) (by rw [vn_len e1]; have := hf.1; omega) (fun y hy => by have := (vnOk_ps (hf.2 _ (vn_mem e1 hy))).1; omega)
set_option maxRecDepth 100000 in
set_option maxHeartbeats 2000000 in
theorem chainPuts_walk (v0 : Value) (q : List (Value × Vn)) (pv : Value) (x : Vn) (n : Int) (w : World) (hv : VnI w v0 q) (hz : q.length * 64 ≤ 140737488355328) (hy : ∀ y ∈ q, ibulk.SzB y.2) (hp : PcI w pv x.ps) (hx : ibulk.SzB x) (_hn : (Lit.int .i64 n).wf = true) :
    Calls Try.prog 4 #[v0, vnV (pv, x), .int .i64 n] w fun e w' => e = .returned (.bool true) ∧ Below w.heap.size w w' := by
  obtain ⟨ad, cap, rfl⟩ := hp.sl
  have hsz : SzQ q := ⟨by omega, fun y hy' => by obtain ⟨h1, h2, h3⟩ := hy y hy'; exact ⟨h1, by omega, h3⟩⟩
  obtain ⟨hx1, hx2, hx3⟩ := hx
  obtain ⟨av, cv, rfl, -⟩ := hv.form
  have BM := hid (Bx.made (Below.refl w.heap.size w) [.int .i64 x.id, .bool x.ma, .int .i64 x.sz, .string x.sum, .slice ad x.ps.length cap] 24)
  have PT : Hid (∀ W, Below w.heap.size w W → Calls Try.prog 16 #[.slice av q.length cv, vnV (.slice ad x.ps.length cap, x)] W (GiveV W (putL (vqL q) x) (putE (vqL q) x))) := fun W hW => put_any _ q _ x W (hv.next hW) (hp.next hW)
  have LR : Hid (∀ W, Below w.heap.size w W → Calls Try.prog 18 #[.slice av q.length cv] W fun e w' => ∃ ad n cap q', e = .returned (.slice ad n cap) ∧ Hid (VnI w' (.slice ad n cap) q' ∧ vqL q' = vqL q) ∧ Hid (Below W.heap.size W w')) := fun W hW => (lrefs_any _ q W (hv.next hW) hz (fun y hy' => (hy y hy').2.1)).mono fun e w' ⟨ad, cap, q', h1, h2, h3, h4⟩ => ⟨ad, _, cap, q', h1, ⟨h3.vn, h2⟩, h4⟩
  have LRB : Hid (∀ W, Bx w w.heap.size [.int .i64 x.id, .bool x.ma, .int .i64 x.sz, .string x.sum, .slice ad x.ps.length cap] 24 W → Calls Try.prog 18 #[.slice av q.length cv] W fun e w' => ∃ adA nA capA qA, e = .returned (.slice adA nA capA) ∧ (w'.cell? ⟨w.heap.size, 0, none⟩ = some (.int .i64 x.id) ∧ w'.cell? ⟨w.heap.size, 1, none⟩ = some (.bool x.ma) ∧ w'.cell? ⟨w.heap.size, 2, none⟩ = some (.int .i64 x.sz) ∧ w'.cell? ⟨w.heap.size, 3, none⟩ = some (.string x.sum) ∧ w'.cell? ⟨w.heap.size, 4, none⟩ = some (.slice ad x.ps.length cap)) ∧ Hid (VnI w' (.slice adA nA capA) qA ∧ vqL qA = vqL q) ∧ Hid (Bx w w.heap.size [.int .i64 x.id, .bool x.ma, .int .i64 x.sz, .string x.sum, .slice ad x.ps.length cap] 24 w') ∧ Hid (Below W.heap.size W w')) := fun W hW => (LR.out W hW.b).mono fun e w' ⟨a1, a2, a3, q', he, h1, h2⟩ => ⟨a1, a2, a3, q', he, (hW.next h2.out).may.1, h1, hW.next h2.out, h2⟩
  have RFB : Hid (∀ W, Bx w w.heap.size [.int .i64 x.id, .bool x.ma, .int .i64 x.sz, .string x.sum, .slice ad x.ps.length cap] 24 W → Calls Try.prog 15 #[vnV (.slice ad x.ps.length cap, x)] W fun e w' => ∃ adR capR, e = .returned (vnV (.slice adR x.ps.length capR, x)) ∧ (w'.cell? ⟨w.heap.size, 0, none⟩ = some (.int .i64 x.id) ∧ w'.cell? ⟨w.heap.size, 1, none⟩ = some (.bool x.ma) ∧ w'.cell? ⟨w.heap.size, 2, none⟩ = some (.int .i64 x.sz) ∧ w'.cell? ⟨w.heap.size, 3, none⟩ = some (.string x.sum) ∧ w'.cell? ⟨w.heap.size, 4, none⟩ = some (.slice ad x.ps.length cap)) ∧ Hid (PcI w' (.slice adR x.ps.length capR) x.ps) ∧ Hid (Bx w w.heap.size [.int .i64 x.id, .bool x.ma, .int .i64 x.sz, .string x.sum, .slice ad x.ps.length cap] 24 w') ∧ Hid (Below W.heap.size W w')) := fun W hW => (lref_any _ x W (hp.next hW.b) hx2).mono fun e w' ⟨ad', cap', he, ho, hb⟩ => ⟨ad', cap', he, (hW.next hb).may.1, ho.pcs, hW.next hb, hb⟩
  have RPB : Hid (∀ W v q' adR capR, Bx w w.heap.size [.int .i64 x.id, .bool x.ma, .int .i64 x.sz, .string x.sum, .slice ad x.ps.length cap] 24 W → (VnI W v q' ∧ vqL q' = vqL q) → PcI W (.slice adR x.ps.length capR) x.ps → Calls Try.prog 17 #[v, vnV (.slice adR x.ps.length capR, x)] W fun e w' => ∃ adB nB capB qB, e = .returned (.tuple #[.slice adB nB capB, .int .i64 (putE (vqL q) x)]) ∧ (w'.cell? ⟨w.heap.size, 0, none⟩ = some (.int .i64 x.id) ∧ w'.cell? ⟨w.heap.size, 1, none⟩ = some (.bool x.ma) ∧ w'.cell? ⟨w.heap.size, 2, none⟩ = some (.int .i64 x.sz) ∧ w'.cell? ⟨w.heap.size, 3, none⟩ = some (.string x.sum) ∧ w'.cell? ⟨w.heap.size, 4, none⟩ = some (.slice ad x.ps.length cap)) ∧ Hid (VnI w' (.slice adB nB capB) qB ∧ vqL qB = putL (vqL q) x) ∧ Hid (Bx w w.heap.size [.int .i64 x.id, .bool x.ma, .int .i64 x.sz, .string x.sum, .slice ad x.ps.length cap] 24 w') ∧ Hid (Below W.heap.size W w')) := fun W v q' adR capR hW hI hP => by
    have := rput_any v q' (.slice adR x.ps.length capR) x W hI.1 hP (hsz.of hI.2) (by omega) hx3 hx1
    rw [hI.2] at this
    exact this.mono fun e w' ⟨a1, a2, a3, qB, he, h1, h2, h3⟩ => ⟨a1, a2, a3, qB, he, (hW.next h3).may.1, ⟨h2, h1⟩, hW.next h3, h3⟩
  have DR : Hid (∀ W, Below w.heap.size w W → Calls Try.prog 19 #[.slice av q.length cv, .int .i64 n] W (GiveV W (drL (vqL q) n) (plE (vqL q) n))) := fun W hW => drop_any _ q n W (hv.next hW)
  have RD : Hid (∀ W v q', (VnI W v q' ∧ vqL q' = vqL q) → Calls Try.prog 20 #[v, .int .i64 n] W (GiveV W (drL (vqL q) n) (plE (vqL q) n))) := fun W v q' hI => by
    have := rdrop_any v q' n W hI.1 (hsz.of hI.2)
    rw [hI.2] at this
    exact this
  have FP := hid (few_put (vqL q) x)
  have FD := hid (few_drop (vqL q) n)
  have AW := hid (fun W => awake13 W)
  clear hv hz hy hp hx1 hx2 hx3 hsz _hn
  unfold vnV at *
  obtain ⟨id, ma, sz, sum, ps⟩ := x
  simp only at *
  generalize putE _ _ = PE at *
  generalize putL _ _ = PL at *
  generalize drL _ _ = DL at *
  generalize plE _ _ = DE at *
  generalize hpn : ps.length = pn at *
  have e1 : (PE == PE) = true := beq_self_eq_true _
  have e2 : (DE == DE) = true := beq_self_eq_true _
  obtain ⟨⟨y0, y1, y2, y3, y4⟩, -⟩ := BM.out.may
  go_enter Try.func4, Try.ntmps4
  go_wp2_with fail
  refine (PT.out _ BM.out.b).mono ?_
  rintro e w1 ⟨ad1, n1, cap1, qa, rfl, ea, ia, b1⟩
  have B1 := hid (BM.out.next b1)
  have IA1 := hid ia
  have EA := hid ea
  clear PT b1 BM y0 y1 y2 y3 y4 ea ia
  have BD := hid B1.out.drew
  have YD := hid B1.out.drew.may.1
  have ID := hid (IA1.out.next (show Below w1.heap.size w1 w1.drew from (Below.refl _ _).drew))
  go_wp2
  go_region_held3 (fun w' => w'.cell? ⟨w.heap.size, 0, none⟩ = some (.int .i64 id) ∧ w'.cell? ⟨w.heap.size, 1, none⟩ = some (.bool ma) ∧ w'.cell? ⟨w.heap.size, 2, none⟩ = some (.int .i64 sz) ∧ w'.cell? ⟨w.heap.size, 3, none⟩ = some (.string sum) ∧ w'.cell? ⟨w.heap.size, 4, none⟩ = some (.slice ad pn cap)) (first | with_reducible exact YD.out | with_reducible assumption) (first | (go_at_call 18; (first | with_reducible (refine (LRB.out _ BR.out).mono ?_) | with_reducible (refine (LRB.out _ BD.out).mono ?_)); rintro e wA ⟨adA, nA, capA, qA, rfl, ZA, IA, BA, KA⟩) | (go_at_call 15; (first | with_reducible (refine (RFB.out _ BA.out).mono ?_) | with_reducible (refine (RFB.out _ BD.out).mono ?_)); rintro e wR ⟨adR, capR, rfl, ZR, PR, BR, KR⟩) | (go_at_call 17; (first | with_reducible (refine (RPB.out _ _ _ _ _ BR.out ⟨IA.out.1.next KR.out, IA.out.2⟩ PR.out).mono ?_) | with_reducible (refine (RPB.out _ _ _ _ _ BA.out IA.out (PR.out.next KA.out)).mono ?_)); rintro e wB ⟨adB, nB, capB, qB, rfl, ZB, IB, BB, KB⟩))
  all_goals
    first | have IA4 := hid (((ID.out.next KA.out).next KR.out).next KB.out) | have IA4 := hid (((ID.out.next KR.out).next KA.out).next KB.out)
    clear ZA ZR ZB IA PR BA BR KA KR KB BD YD ID LRB RFB RPB B1 IA1
    go_wp2_with fail
    refine (DR.out _ BB.out.b).mono ?_
    rintro e w5 ⟨ad5, n5, cap5, qc, rfl, ec, ic, b5⟩
    have EC := hid ec
    have IC5 := hid ic
    have IA5 := hid (IA4.out.next b5)
    have IB5 := hid (IB.out.1.next b5)
    have EB := hid IB.out.2
    have B5 := hid (below_on BB.out.b b5)
    clear ec ic b5 IA4 IB BB DR
    go_wp2_with fail
    refine (LR.out _ B5.out).mono ?_
    rintro e w6 ⟨ad6, n6, cap6, q6, rfl, I6, K6⟩
    have IA6 := hid (IA5.out.next K6.out)
    have IB6 := hid (IB5.out.next K6.out)
    have IC6 := hid (IC5.out.next K6.out)
    have B6 := hid (below_on B5.out K6.out)
    clear IA5 IB5 IC5 B5 K6 LR
    go_wp2_with fail
    refine (RD.out _ _ _ I6.out).mono ?_
    rintro e w7 ⟨ad7, n7, cap7, qd, rfl, ed, idd, b7⟩
    have ED := hid ed
    have ID7 := hid idd
    have IA7 := hid (IA6.out.next b7)
    have IB7 := hid (IB6.out.next b7)
    have IC7 := hid (IC6.out.next b7)
    have B7 := hid (below_on B6.out b7)
    clear IA6 IB6 IC6 B6 b7 RD I6 ed idd
    go_wp2_with fail
    refine (AW.out _).mono ?_
    rintro e w8 ⟨rfl, b8⟩
    have ID8 := hid (ID7.out.next b8)
    have IA8 := hid (IA7.out.next b8)
    have IB8 := hid (IB7.out.next b8)
    have IC8 := hid (IC7.out.next b8)
    have B8 := hid (below_on B7.out b8)
    have R8 := hid (refs_few _ _ PL _ IA8.out EA.out FP.out)
    clear ID7 IA7 IB7 IC7 B7 b8 AW IA8
    go_wp2_with fail
    refine R8.out.mono ?_
    rintro e w9 ⟨ad9, n9, cap9, q9, rfl, I9, K9⟩
    have ID9 := hid (ID8.out.next K9.out)
    have IC9 := hid (IC8.out.next K9.out)
    have B9 := hid (below_on B8.out K9.out)
    have A9 := hid (alike_few _ _ _ _ PL _ I9.out.1 (IB8.out.next K9.out) I9.out.2 EB.out FP.out)
    clear ID8 IB8 IC8 B8 K9 R8 I9
    go_wp2_with fail
    refine A9.out.mono ?_
    rintro e w10 ⟨rfl, b10⟩
    have ID10 := hid (ID9.out.next b10)
    have IC10 := hid (IC9.out.next b10)
    have B10 := hid (below_on B9.out b10)
    have R10 := hid (refs_few _ _ DL _ IC10.out EC.out FD.out)
    clear ID9 IC9 B9 b10 A9 IC10
    go_wp2_with fail
    refine R10.out.mono ?_
    rintro e w11 ⟨ad11, n11, cap11, q11, rfl, I11, K11⟩
    have B11 := hid (below_on B10.out K11.out)
    have A11 := hid (alike_few _ _ _ _ DL _ I11.out.1 (ID10.out.next K11.out) I11.out.2 ED.out FD.out)
    clear ID10 B10 K11 R10 I11
    go_wp2_with fail
    refine A11.out.mono ?_
    rintro e w12 ⟨rfl, b12⟩
    have B12 := hid (below_on B11.out b12)
    clear B11 b12 A11
    go_wp2
    go_ret
    exact ⟨rfl, B12.out⟩
end Go.Proofs.Ytbiapepalkdkdaa
