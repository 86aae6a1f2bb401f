/- The walk of the law ChainChecks. -/
import Derived.Test.YtbiapepalkdkdaaCvZ
namespace Go.Proofs.Ytbiapepalkdkdaa
open Go.RowKit Go.Maps
set_option linter.unusedVariables false
set_option linter.unusedSimpArgs false

/-- the five cells of a box -/
def Five (W : World) (g : Nat) (x0 x1 x2 x3 x4 : Value) : Prop := W.cell? ⟨g, 0, none⟩ = some x0 ∧ W.cell? ⟨g, 1, none⟩ = some x1 ∧ W.cell? ⟨g, 2, none⟩ = some x2 ∧ W.cell? ⟨g, 3, none⟩ = some x3 ∧ W.cell? ⟨g, 4, none⟩ = some x4
set_option maxRecDepth 100000 in
set_option maxHeartbeats 2000000 in
theorem chainChecks_walk (pv : Value) (x : Vn) (w : World) (hp : PcI w pv x.ps) (hz : ibulk.SzB x) :
    Calls Try.prog 3 #[vnV (pv, x)] w fun e w' => e = .returned (.bool true) ∧ Below w.heap.size w w' := by
  obtain ⟨ad, cap, rfl⟩ := hp.sl
  obtain ⟨hz1, hz2, hz3⟩ := hz
  have BM := hid (Bx.made (Below.refl w.heap.size w) [.int .i64 x.id, .bool x.ma, .int .i64 x.sz, .string x.sum, .slice ad x.ps.length cap] 24)
  have PI := hid (pieces_any (.slice ad x.ps.length cap) x.ps _ (hp.next BM.out.b))
  have LP : Hid (∀ W, Below w.heap.size w W → Calls Try.prog 11 #[.slice ad x.ps.length cap] W fun e w' => ∃ ad cap, e = .returned (.slice ad x.ps.length cap) ∧ OwnP w' W.heap.size 74 (.slice ad x.ps.length cap) x.ps ∧ Below W.heap.size W w') := fun W hW => lpiece_any _ x.ps W (hp.next hW) hz2
  have RP : Hid (∀ W v, PcI W v x.ps → Calls Try.prog 10 #[v] W fun e w' => e = .returned (.tuple #[.int .i64 (pcV x.ps), .int .i64 (pcE x.ps)]) ∧ Below W.heap.size W w') := fun W v h => rpieces_any v x.ps W h (by omega) hz3
  have AW : Hid (∀ W, Bx w w.heap.size [.int .i64 x.id, .bool x.ma, .int .i64 x.sz, .string x.sum, .slice ad x.ps.length cap] 24 W → Calls Try.prog 12 #[] W fun e w' => e = .returned (.bool true) ∧ (w'.cell? ⟨w.heap.size, 0, none⟩ = some (.int .i64 x.id) ∧ w'.cell? ⟨w.heap.size, 1, none⟩ = some (.bool x.ma) ∧ w'.cell? ⟨w.heap.size, 2, none⟩ = some (.int .i64 x.sz) ∧ w'.cell? ⟨w.heap.size, 3, none⟩ = some (.string x.sum) ∧ w'.cell? ⟨w.heap.size, 4, none⟩ = some (.slice ad x.ps.length cap)) ∧ Hid (Bx w w.heap.size [.int .i64 x.id, .bool x.ma, .int .i64 x.sz, .string x.sum, .slice ad x.ps.length cap] 24 w')) := fun W hW => (awake13 W).mono fun e w' ⟨he, hb⟩ => ⟨he, (hW.next hb).may.1, hW.next hb⟩
  have CK : Hid (∀ W, Bx w w.heap.size [.int .i64 x.id, .bool x.ma, .int .i64 x.sz, .string x.sum, .slice ad x.ps.length cap] 24 W → Calls Try.prog 13 #[vnV (.slice ad x.ps.length cap, x)] W fun e w' => e = .returned (.int .i64 (vnE x)) ∧ (w'.cell? ⟨w.heap.size, 0, none⟩ = some (.int .i64 x.id) ∧ w'.cell? ⟨w.heap.size, 1, none⟩ = some (.bool x.ma) ∧ w'.cell? ⟨w.heap.size, 2, none⟩ = some (.int .i64 x.sz) ∧ w'.cell? ⟨w.heap.size, 3, none⟩ = some (.string x.sum) ∧ w'.cell? ⟨w.heap.size, 4, none⟩ = some (.slice ad x.ps.length cap)) ∧ Hid (Bx w w.heap.size [.int .i64 x.id, .bool x.ma, .int .i64 x.sz, .string x.sum, .slice ad x.ps.length cap] 24 w') ∧ Hid (Below W.heap.size W w')) := fun W hW => (vcheck_any _ x W (hp.next hW.b)).mono fun e w' ⟨he, hb⟩ => ⟨he, (hW.next hb).may.1, hW.next hb, hb⟩
  have RF : Hid (∀ W, Bx w w.heap.size [.int .i64 x.id, .bool x.ma, .int .i64 x.sz, .string x.sum, .slice ad x.ps.length cap] 24 W → Calls Try.prog 15 #[vnV (.slice ad x.ps.length cap, x)] W fun e w' => ∃ ad' cap', e = .returned (vnV (.slice ad' x.ps.length cap', x)) ∧ (w'.cell? ⟨w.heap.size, 0, none⟩ = some (.int .i64 x.id) ∧ w'.cell? ⟨w.heap.size, 1, none⟩ = some (.bool x.ma) ∧ w'.cell? ⟨w.heap.size, 2, none⟩ = some (.int .i64 x.sz) ∧ w'.cell? ⟨w.heap.size, 3, none⟩ = some (.string x.sum) ∧ w'.cell? ⟨w.heap.size, 4, none⟩ = some (.slice ad x.ps.length cap)) ∧ Hid (Bx w w.heap.size [.int .i64 x.id, .bool x.ma, .int .i64 x.sz, .string x.sum, .slice ad x.ps.length cap] 24 w') ∧ Hid (∀ W', Bx w w.heap.size [.int .i64 x.id, .bool x.ma, .int .i64 x.sz, .string x.sum, .slice ad x.ps.length cap] 24 W' → Below w'.heap.size w' W' → Calls Try.prog 14 #[vnV (.slice ad' x.ps.length cap', x)] W' fun e w' => e = .returned (.int .i64 (vnE x)) ∧ (w'.cell? ⟨w.heap.size, 0, none⟩ = some (.int .i64 x.id) ∧ w'.cell? ⟨w.heap.size, 1, none⟩ = some (.bool x.ma) ∧ w'.cell? ⟨w.heap.size, 2, none⟩ = some (.int .i64 x.sz) ∧ w'.cell? ⟨w.heap.size, 3, none⟩ = some (.string x.sum) ∧ w'.cell? ⟨w.heap.size, 4, none⟩ = some (.slice ad x.ps.length cap)) ∧ Hid (Bx w w.heap.size [.int .i64 x.id, .bool x.ma, .int .i64 x.sz, .string x.sum, .slice ad x.ps.length cap] 24 w'))) := fun W hW => (lref_any _ x W (hp.next hW.b) hz2).mono fun e w' ⟨ad', cap', he, ho, hb⟩ => ⟨ad', cap', he, (hW.next hb).may.1, hW.next hb, fun W' hW' hb' => (rvcheck_any _ x W' (ho.pcs.next hb') (by omega) hz3 hz1).mono fun e w'' ⟨he, hb''⟩ => ⟨he, (hW'.next hb'').may.1, hW'.next hb''⟩⟩
  clear hp hz1 hz2 hz3
  unfold vnV at *
  obtain ⟨id, ma, sz, sum, ps⟩ := x
  simp only at *
  generalize pcE ps = E at *
  generalize pcV ps = V at *
  generalize vnE _ = C at *
  generalize hpn : ps.length = pn at *
  have hV : (V == V) = true := beq_self_eq_true _
  have hE : (E == E) = true := beq_self_eq_true _
  have hC : (C == C) = true := beq_self_eq_true _
  have y4 := BM.out.row.cellAt (o := 4) rfl
  go_enter Try.func3, Try.ntmps3
  go_wp2_with fail
  refine PI.out.mono ?_
  rintro e w1 ⟨rfl, b1⟩
  have B1 := hid (BM.out.next b1)
  clear PI b1 BM y4
  have y4 := B1.out.row.cellAt (o := 4) rfl
  go_wp2_with fail
  refine (LP.out _ B1.out.b).mono ?_
  rintro e w2 ⟨ad2, cap2, rfl, o2, b2⟩
  have O2 : Hid (PcI w2 (.slice ad2 pn cap2) ps) := OwnP.pcs o2
  have B2 := hid (B1.out.next b2)
  clear LP b2 o2 B1 y4
  go_wp2_with fail
  refine (RP.out _ _ O2.out).mono ?_
  rintro e w3 ⟨rfl, b3⟩
  have B3 := hid (B2.out.next b3)
  have BD := hid B3.out.drew
  have YD := hid B3.out.drew.may.1
  clear RP b3 O2 B2
  go_wp2
  go_region_held3 (fun w' => w'.cell? ⟨w.heap.size, 0, none⟩ = some (.int .i64 id) ∧ w'.cell? ⟨w.heap.size, 1, none⟩ = some (.bool ma) ∧ w'.cell? ⟨w.heap.size, 2, none⟩ = some (.int .i64 sz) ∧ w'.cell? ⟨w.heap.size, 3, none⟩ = some (.string sum) ∧ w'.cell? ⟨w.heap.size, 4, none⟩ = some (.slice ad pn cap)) (first | with_reducible exact YD.out | with_reducible assumption) (first | (go_at_call 12; with_reducible (refine (AW.out _ BD.out).mono ?_); rintro e wA ⟨rfl, ZA, BA⟩) | (go_at_call 13; (first | with_reducible (refine (CK.out _ BF.out).mono ?_) | with_reducible (refine (CK.out _ BR.out).mono ?_) | with_reducible (refine (CK.out _ BA.out).mono ?_)); rintro e wC ⟨rfl, ZC, BC, KC⟩) | (go_at_call 15; (first | with_reducible (refine (RF.out _ BC.out).mono ?_) | with_reducible (refine (RF.out _ BA.out).mono ?_)); rintro e wR ⟨ad', cap', rfl, ZR, BR, RC⟩) | (go_at_call 14; (first | with_reducible (refine (RC.out _ BR.out (Below.refl _ _)).mono ?_) | with_reducible (refine (RC.out _ BC.out KC.out).mono ?_)); rintro e wF ⟨rfl, ZF, BF⟩))
  all_goals
    go_wp2
    go_ret
    first | exact ⟨rfl, BF.out.b⟩ | exact ⟨rfl, BC.out.b⟩
end Go.Proofs.Ytbiapepalkdkdaa
