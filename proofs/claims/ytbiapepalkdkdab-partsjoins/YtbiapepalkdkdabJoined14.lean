/- Joined: The same parts: the document's Same. Picks as the law hands them over; where a part of a number and a digest stands: the document's at. Parts are put together: the document's Join. -/
import Derived.Test.YtbiapepalkdkdabJoined13
import Derived.Laws.StructEq
import Derived.Test.YtbiapepalkdkdabJoined12
namespace Go.Proofs.Ytbiapepalkdkdab
open Go.RowKit Go.Maps
set_option linter.unusedVariables false
set_option linter.unusedSimpArgs false

theorem guardPc4 : Try.prog.eqGuardType Try.prog.depth 88 = false := by kernel_rfl
theorem eqlPc4 (X : ByteArray) (a : Int) (W : World) : (binOp .eql 88 (.agg #[.string X, .int .i64 a]) (.agg #[.string X, .int .i64 a])).run Try.prog W = .ok (.bool true) W := by
  have u9 := Try.underlying9
  have u4 := Try.underlying3
  have z9 := Try.sizeOf9
  have z4 := Try.sizeOf3
  have a9 := Try.isAgg9
  have a4 := Try.isAgg3
  have hS : Try.prog.underlying 88 = some (.struct (Try.prog.fieldsOf 88)) := by kernel_rfl
  have hp : Try.prog.stoodInHeld 88 = false := by kernel_rfl
  rw [run_eql_struct, show (10000 : Nat) = 9999 + 1 from rfl, run_equalIn_agg W 9999 88 _ _ hS hp]
  simp only [Program.fieldsOf, Try.underlying88]
  go_simp
theorem neqPc4 (X : ByteArray) (a : Int) (W : World) : (binOp .neq 88 (.agg #[.string X, .int .i64 a]) (.agg #[.string X, .int .i64 a])).run Try.prog W = .ok (.bool false) W := by
  have h := eqlPc4 X a W
  rw [run_eql_struct] at h
  rw [run_neq_struct]
  generalize (Op.equalIn 10000 88 (.agg #[.string X, .int .i64 a]) (.agg #[.string X, .int .i64 a])).run Try.prog W = R at *
  cases R with
  | ok r W1 =>
    simp only [Result.andThen_ok] at h ⊢
    injection h with h1 h2
    injection h1 with h1
    rw [h1, h2]
    rfl
  | _ => cases h
theorem Tb.drewN4 {w W : World} {cs zs : List Value} {t1 t2 : TypeId} (h : Tb w cs zs t1 t2 W) (n : Nat) : Tb w cs zs t1 t2 (W.drewN n) := ⟨h.row, h.res, below_drewN h.b n⟩
set_option maxRecDepth 100000 in
set_option maxHeartbeats 2000000 in
theorem rsame_true4 (p1 p2 : Value) (x : Vn) (w : World) (h1 : PcI w p1 x.ps) (h2 : PcI w p2 x.ps) (hl : x.ps.length ≤ 8796093022208) : Calls Try.prog 22 #[vnV (p1, x), vnV (p2, x)] w fun e w' => e = .returned (.bool true) ∧ Below w.heap.size w w' := by
  obtain ⟨a1, c1, rfl, g1⟩ := h1.form
  obtain ⟨a2, c2, rfl, g2⟩ := h2.form
  have HC : Hid (∀ (k : Nat) (hk : k < x.ps.length) (W : World), Below w.heap.size w W → ∃ b1 o1 b2 o2 X F, a1 = some ⟨b1, o1, none⟩ ∧ a2 = some ⟨b2, o2, none⟩ ∧ W.cell? ⟨b1, o1 + k * 2, none⟩ = some (.string X) ∧ W.cell? ⟨b1, o1 + k * 2 + 1, none⟩ = some (.int .i64 F) ∧ W.cell? ⟨b2, o2 + k * 2, none⟩ = some (.string X) ∧ W.cell? ⟨b2, o2 + k * 2 + 1, none⟩ = some (.int .i64 F)) := fun k hk W hW => by
    obtain ⟨b1, o1, e1, hb1, p1, p2⟩ := g1 k hk
    obtain ⟨b2, o2, e2, hb2, q1, q2⟩ := g2 k hk
    exact ⟨b1, o1, b2, o2, _, _, e1, e2, (hW.cell (p := ⟨b1, o1 + k * 2, none⟩) hb1).trans p1, (hW.cell (p := ⟨b1, o1 + k * 2 + 1, none⟩) hb1).trans p2, (hW.cell (p := ⟨b2, o2 + k * 2, none⟩) hb2).trans q1, (hW.cell (p := ⟨b2, o2 + k * 2 + 1, none⟩) hb2).trans q2⟩
  have TM := hid (Tb.made w [.int .i64 x.id, .bool x.ma, .int .i64 x.sz, .string x.sum, .slice a1 x.ps.length c1] [.int .i64 x.id, .bool x.ma, .int .i64 x.sz, .string x.sum, .slice a2 x.ps.length c2] 51 51)
  clear h1 h2 g1 g2
  unfold vnV
  obtain ⟨id, ma, sz, sum, ps⟩ := x
  simp only at *
  generalize ps.length = n at *
  obtain ⟨y0, y1, y2, y3, y4⟩ := TM.out.five
  obtain ⟨⟨z0, z1, z2, z3, z4⟩, -⟩ := TM.out.may
  have e1 : (id != id) = false := by simp
  have e2 : (ma != ma) = false := by simp
  have e3 : (sz != sz) = false := by simp
  have e4 : (sum.toList != sum.toList) = false := by simp
  have e5 : ((n : Int) != (n : Int)) = false := by simp
  have hg := guardPc4
  go_enter Try.func22, Try.ntmps22
  go_wp2
  clear y0 y1 y2 y3 y4 z0 z1 z2 z3 z4 e1 e2 e3 e4 e5
  go_loopw [5] (fun i wr => ∃ k : Nat, k ≤ n ∧ i = .int .i64 k ∧ Hid (Tb w [.int .i64 id, .bool ma, .int .i64 sz, .string sum, .slice a1 n c1] [.int .i64 id, .bool ma, .int .i64 sz, .string sum, .slice a2 n c2] 51 51 wr)) (fun i _ => n - (intOf i).toNat)
  case atStart => exact ⟨0, by omega, rfl, TM⟩
  case round =>
    clear TM
    obtain ⟨k, hk, rfl, HT⟩ := hrel
    have y4 := HT.out.row.cellAt (o := 4) rfl
    by_cases hlt : k < n
    · have hk0 : (0 : Int) ≤ (k : Int) := by omega
      have hk1 : (k : Int) < (n : Int) := by omega
      have z4 := HT.out.res.cellAt (o := 4) rfl
      obtain ⟨b1, o1, b2, o2, X, F, e1, e2, p1, p2, q1, q2⟩ := HC.out k hlt wr HT.out.b
      subst e1 e2
      have hq := fun W => neqPc4 X F W
      clear HC
      go_wp2
      go_quiet (fail)
      have HT2 := hid (HT.out.drewN4 nq)
      clear HT y4 z4 p1 p2 q1 q2
      go_wp2
      exact ⟨⟨k + 1, by omega, by go_num, HT2⟩, by simp [intOf]; omega⟩
    · have hd : decide ((k : Int) < (n : Int)) = false := decide_eq_false (by omega)
      have hd2 : decide (k < n) = false := decide_eq_false hlt
      clear HC
      go_wp2
      go_ret
      exact ⟨rfl, HT.out.b⟩

set_option maxRecDepth 100000 in
set_option maxHeartbeats 4000000 in
theorem rtsame_true (v1 v2 : Value) (q1 q2 : List (Value × Pt)) (w : World) (h1 : PtI w v1 q1) (h2 : PtI w v2 q2) (he : tqL q1 = tqL q2) (hl : q1.length ≤ 8796093022208) (hs : ∀ y ∈ q1, y.2.ps.length ≤ 8796093022208) : Calls Try.prog 15 #[v1, v2] w fun e w' => e = .returned (.bool true) ∧ Below w.heap.size w w' := by
  obtain ⟨a1, c1, rfl, g1⟩ := h1.form
  obtain ⟨a2, c2, rfl, g2⟩ := h2.form
  have hn : q2.length = q1.length := by rw [← tqL_len, ← tqL_len, he]
  rw [hn]
  have HC : Hid (∀ (k : Nat) (hk : k < q1.length), ∃ (x : Pt) (b1 o1 b2 o2 : Nat) (p1 p2 : Option Addr) (q1c q2c : Nat), a1 = some ⟨b1, o1, none⟩ ∧ a2 = some ⟨b2, o2, none⟩ ∧ (∀ W, Below w.heap.size w W → (W.cell? ⟨b1, o1 + k * 4, none⟩ = some (.int .i64 x.n) ∧ W.cell? ⟨b1, o1 + k * 4 + 1, none⟩ = some (.int .i64 x.sz) ∧ W.cell? ⟨b1, o1 + k * 4 + 2, none⟩ = some (.string x.sum) ∧ W.cell? ⟨b1, o1 + k * 4 + 3, none⟩ = some (.slice p1 x.ps.length q1c)) ∧ (W.cell? ⟨b2, o2 + k * 4, none⟩ = some (.int .i64 x.n) ∧ W.cell? ⟨b2, o2 + k * 4 + 1, none⟩ = some (.int .i64 x.sz) ∧ W.cell? ⟨b2, o2 + k * 4 + 2, none⟩ = some (.string x.sum) ∧ W.cell? ⟨b2, o2 + k * 4 + 3, none⟩ = some (.slice p2 x.ps.length q2c))) ∧ ∀ W, Below w.heap.size w W → Calls Try.prog 22 #[.agg #[.int .i64 x.n, .bool false, .int .i64 x.sz, .string x.sum, .slice p1 x.ps.length q1c], .agg #[.int .i64 x.n, .bool false, .int .i64 x.sz, .string x.sum, .slice p2 x.ps.length q2c]] W fun e w' => e = .returned (.bool true) ∧ Below W.heap.size W w') := fun k hk => by
    obtain ⟨b1, o1, e1, hb1, c10, c11, c12, c13, hp1⟩ := g1 k hk
    obtain ⟨b2, o2, e2, hb2, c20, c21, c22, c23, hp2⟩ := g2 k (by omega)
    have hx : q2[k].2 = q1[k].2 := by
      have a := tqL_get q1 k hk
      have b := tqL_get q2 k (by omega)
      rw [← a, ← b]
      congr 1
      exact he.symm
    rw [hx] at c20 c21 c22 hp2
    obtain ⟨p1, q1c, f1⟩ := hp1.sl
    obtain ⟨p2, q2c, f2⟩ := hp2.sl
    rw [f1] at c13 hp1
    rw [f2] at c23 hp2
    refine ⟨q1[k].2, b1, o1, b2, o2, p1, p2, q1c, q2c, e1, e2, fun W hW => ⟨⟨(hW.cell hb1).trans c10, (hW.cell hb1).trans c11, (hW.cell hb1).trans c12, (hW.cell hb1).trans c13⟩, (hW.cell hb2).trans c20, (hW.cell hb2).trans c21, (hW.cell hb2).trans c22, (hW.cell hb2).trans c23⟩, fun W hW => ?_⟩
    exact rsame_true4 _ _ ⟨q1[k].2.n, false, q1[k].2.sz, q1[k].2.sum, q1[k].2.ps⟩ W (hp1.next hW) (hp2.next hW) (hs _ (List.getElem_mem hk))
  have HL := hid hl
  clear g1 g2 h1 h2 he hs hl hn
  generalize q1.length = N at *
  go_enter Try.func15, Try.ntmps15
  go_wp2
  go_loopw [5] (fun i wr => ∃ (k : Nat), k ≤ N ∧ i = .int .i64 (k : Int) ∧ Hid (Below w.heap.size w wr)) (fun i _ => N - (intOf i).toNat)
  case atStart => exact ⟨0, Nat.zero_le _, rfl, Below.refl _ _⟩
  case round =>
    obtain ⟨k, hk, rfl, HB⟩ := hrel
    by_cases hlt : k < N
    · have hk1 : (k : Int) < (N : Int) := by omega
      have hk0 : (0 : Int) ≤ (k : Int) := by omega
      have hwk : wrap64 ((k : Int) + 1) = ((k + 1 : Nat) : Int) := by have := HL.out; rw [IntWalk.wrap64_in _ (by omega)]; omega
      obtain ⟨x, b1, o1, b2, o2, p1, p2, q1c, q2c, rfl, rfl, hce, hsm⟩ := HC.out k hlt
      have HCE := hid hce
      have SM := hid hsm
      have HLT := hid hlt
      clear HC hce hsm HL hk hlt
      obtain ⟨n, sz, sum, ps⟩ := x
      simp only at *
      generalize ps.length = pn at *
      obtain ⟨⟨d0, d1, d2, d3⟩, -⟩ := HCE.out _ HB.out
      go_wp2
      refine wp_region_held_drew (S := (fun w' => w'.cell? ⟨b1, o1 + k * 4, none⟩ = some (.int .i64 n) ∧ w'.cell? ⟨b1, o1 + k * 4 + 1, none⟩ = some (.int .i64 sz) ∧ w'.cell? ⟨b1, o1 + k * 4 + 2, none⟩ = some (.string sum) ∧ w'.cell? ⟨b1, o1 + k * 4 + 3, none⟩ = some (.slice p1 pn q1c))) (by kernel_rfl) ⟨d0, d1, d2, d3⟩ (fun hHeld => ?_)
      refine wpAnyH_take (i := 0) (v := ?vv1) rfl (by kernel_rfl) (by kernel_rfl) (by kernel_rfl) (fun _ _ _ h => h) (Or.inl ⟨by rfl, ?hy1⟩) (by assumption) ?rest1
      case hy1 => (intro w hSw; (try dsimp only at hSw); go_simp; first | done | with_reducible rfl)
      try simp only [Act.put, List.getElem_toArray, List.getElem_cons_succ, List.getElem_cons_zero, List.setIfInBounds_toArray, List.set_cons_zero, List.set_cons_succ]
      refine wpAnyH_take (i := 1) (v := ?vv2) rfl (by kernel_rfl) (by kernel_rfl) (by kernel_rfl) (fun _ _ _ h => h) (Or.inl ⟨by rfl, ?hy2⟩) (by assumption) ?rest2
      case hy2 => (intro w hSw; (try dsimp only at hSw); go_simp; first | done | with_reducible rfl)
      try simp only [Act.put, List.getElem_toArray, List.getElem_cons_succ, List.getElem_cons_zero, List.setIfInBounds_toArray, List.set_cons_zero, List.set_cons_succ]
      refine wpAnyH_take (i := 2) (v := ?vv3) rfl (by kernel_rfl) (by kernel_rfl) (by kernel_rfl) (fun _ _ _ h => h) (Or.inl ⟨by rfl, ?hy3⟩) (by assumption) ?rest3
      case hy3 => (intro w hSw; (try dsimp only at hSw); go_simp; first | done | with_reducible rfl)
      try simp only [Act.put, List.getElem_toArray, List.getElem_cons_succ, List.getElem_cons_zero, List.setIfInBounds_toArray, List.set_cons_zero, List.set_cons_succ]
      refine wpAnyH_take (i := 3) (v := ?vv4) rfl (by kernel_rfl) (by kernel_rfl) (by kernel_rfl) (fun _ _ _ h => h) (Or.inl ⟨by rfl, ?hy4⟩) (by assumption) ?rest4
      case hy4 => (intro w hSw; (try dsimp only at hSw); go_simp; first | done | with_reducible rfl)
      try simp only [Act.put, List.getElem_toArray, List.getElem_cons_succ, List.getElem_cons_zero, List.setIfInBounds_toArray, List.set_cons_zero, List.set_cons_succ]
      refine wpAnyH_take (i := 4) (v := ?vv5) rfl (by kernel_rfl) (by kernel_rfl) (by kernel_rfl) (fun _ _ _ h => h) (Or.inl ⟨by rfl, ?hy5⟩) (by assumption) ?rest5
      case hy5 => (intro w hSw; (try dsimp only at hSw); go_simp; first | done | with_reducible rfl)
      try simp only [Act.put, List.getElem_toArray, List.getElem_cons_succ, List.getElem_cons_zero, List.setIfInBounds_toArray, List.set_cons_zero, List.set_cons_succ]
      refine wpAnyH_take (i := 5) (v := ?vv6) rfl (by kernel_rfl) (by kernel_rfl) (by kernel_rfl) (fun _ _ _ h => h) (Or.inl ⟨by rfl, ?hy6⟩) (by assumption) ?rest6
      case hy6 => (intro w hSw; (try dsimp only at hSw); go_simp; first | done | with_reducible rfl)
      try simp only [Act.put, List.getElem_toArray, List.getElem_cons_succ, List.getElem_cons_zero, List.setIfInBounds_toArray, List.set_cons_zero, List.set_cons_succ]
      refine wpAnyH_take (i := 6) (v := ?vv7) rfl (by kernel_rfl) (by kernel_rfl) (by kernel_rfl) (fun _ _ _ h => h) (Or.inl ⟨by rfl, ?hy7⟩) (by assumption) ?rest7
      case hy7 => (intro w hSw; (try dsimp only at hSw); go_simp; first | done | with_reducible rfl)
      try simp only [Act.put, List.getElem_toArray, List.getElem_cons_succ, List.getElem_cons_zero, List.setIfInBounds_toArray, List.set_cons_zero, List.set_cons_succ]
      refine wpAnyH_take (i := 7) (v := ?vv8) rfl (by kernel_rfl) (by kernel_rfl) (by kernel_rfl) (fun _ _ _ h => h) (Or.inl ⟨by rfl, ?hy8⟩) (by assumption) ?rest8
      case hy8 => (intro w hSw; (try dsimp only at hSw); go_simp; first | done | with_reducible rfl)
      try simp only [Act.put, List.getElem_toArray, List.getElem_cons_succ, List.getElem_cons_zero, List.setIfInBounds_toArray, List.set_cons_zero, List.set_cons_succ]
      refine wpAnyH_take (i := 8) (v := ?vv9) rfl (by kernel_rfl) (by kernel_rfl) (by kernel_rfl) (fun _ _ _ h => h) (Or.inl ⟨by rfl, ?hy9⟩) (by assumption) ?rest9
      case hy9 => (intro w hSw; (try dsimp only at hSw); go_simp; first | done | with_reducible rfl)
      try simp only [Act.put, List.getElem_toArray, List.getElem_cons_succ, List.getElem_cons_zero, List.setIfInBounds_toArray, List.set_cons_zero, List.set_cons_succ]
      refine wpAnyH_take (i := 9) (v := ?vv10) rfl (by kernel_rfl) (by kernel_rfl) (by kernel_rfl) (fun _ _ _ h => h) (Or.inl ⟨by rfl, ?hy10⟩) (by assumption) ?rest10
      case hy10 => (intro w hSw; (try dsimp only at hSw); go_simp; first | done | with_reducible rfl)
      try simp only [Act.put, List.getElem_toArray, List.getElem_cons_succ, List.getElem_cons_zero, List.setIfInBounds_toArray, List.set_cons_zero, List.set_cons_succ]
      refine wpAnyH_take (i := 10) (v := ?vv11) rfl (by kernel_rfl) (by kernel_rfl) (by kernel_rfl) (fun _ _ _ h => h) (Or.inl ⟨by rfl, ?hy11⟩) (by assumption) ?rest11
      case hy11 => (intro w hSw; (try dsimp only at hSw); go_simp; first | done | with_reducible rfl)
      try simp only [Act.put, List.getElem_toArray, List.getElem_cons_succ, List.getElem_cons_zero, List.setIfInBounds_toArray, List.set_cons_zero, List.set_cons_succ]
      refine wpAnyH_take (i := 11) (v := ?vv12) rfl (by kernel_rfl) (by kernel_rfl) (by kernel_rfl) (fun _ _ _ h => h) (Or.inl ⟨by rfl, ?hy12⟩) (by assumption) ?rest12
      case hy12 => (intro w hSw; (try dsimp only at hSw); go_simp; first | done | with_reducible rfl)
      try simp only [Act.put, List.getElem_toArray, List.getElem_cons_succ, List.getElem_cons_zero, List.setIfInBounds_toArray, List.set_cons_zero, List.set_cons_succ]
      refine wpAnyH_take (i := 12) (v := ?vv13) rfl (by kernel_rfl) (by kernel_rfl) (by kernel_rfl) (fun _ _ _ h => h) (Or.inl ⟨by rfl, ?hy13⟩) (by assumption) ?rest13
      case hy13 => (intro w hSw; (try dsimp only at hSw); go_simp; first | done | with_reducible rfl)
      try simp only [Act.put, List.getElem_toArray, List.getElem_cons_succ, List.getElem_cons_zero, List.setIfInBounds_toArray, List.set_cons_zero, List.set_cons_succ]
      refine wpAnyH_take (i := 13) (v := ?vv14) rfl (by kernel_rfl) (by kernel_rfl) (by kernel_rfl) (fun _ _ _ h => h) (Or.inl ⟨by rfl, ?hy14⟩) (by assumption) ?rest14
      case hy14 => (intro w hSw; (try dsimp only at hSw); go_simp; first | done | with_reducible rfl)
      try simp only [Act.put, List.getElem_toArray, List.getElem_cons_succ, List.getElem_cons_zero, List.setIfInBounds_toArray, List.set_cons_zero, List.set_cons_succ]
      refine wpAnyH_take (i := 14) (v := ?vv15) rfl (by kernel_rfl) (by kernel_rfl) (by kernel_rfl) (fun _ _ _ h => h) (Or.inl ⟨by rfl, ?hy15⟩) (by assumption) ?rest15
      case hy15 => (intro w hSw; (try dsimp only at hSw); go_simp; first | done | with_reducible rfl)
      try simp only [Act.put, List.getElem_toArray, List.getElem_cons_succ, List.getElem_cons_zero, List.setIfInBounds_toArray, List.set_cons_zero, List.set_cons_succ]
      refine wpAnyH_take (i := 15) (v := ?vv16) rfl (by kernel_rfl) (by kernel_rfl) (by kernel_rfl) (fun _ _ _ h => h) (Or.inl ⟨by rfl, ?hy16⟩) (by assumption) ?rest16
      case hy16 => (intro w hSw; (try dsimp only at hSw); go_simp; first | done | with_reducible rfl)
      try simp only [Act.put, List.getElem_toArray, List.getElem_cons_succ, List.getElem_cons_zero, List.setIfInBounds_toArray, List.set_cons_zero, List.set_cons_succ]
      refine wpAnyH_take (i := 16) (v := ?vv17) rfl (by kernel_rfl) (by kernel_rfl) (by kernel_rfl) (fun _ _ _ h => h) (Or.inl ⟨by rfl, ?hy17⟩) (by assumption) ?rest17
      case hy17 => (intro w hSw; (try dsimp only at hSw); go_simp; first | done | with_reducible rfl)
      try simp only [Act.put, List.getElem_toArray, List.getElem_cons_succ, List.getElem_cons_zero, List.setIfInBounds_toArray, List.set_cons_zero, List.set_cons_succ]
      refine wpAnyH_take (i := 17) (v := ?vv18) rfl (by kernel_rfl) (by kernel_rfl) (by kernel_rfl) (fun _ _ _ h => h) (Or.inl ⟨by rfl, ?hy18⟩) (by assumption) ?rest18
      case hy18 => (intro w hSw; (try dsimp only at hSw); go_simp; first | done | with_reducible rfl)
      try simp only [Act.put, List.getElem_toArray, List.getElem_cons_succ, List.getElem_cons_zero, List.setIfInBounds_toArray, List.set_cons_zero, List.set_cons_succ]
      refine wpAnyH_take (i := 18) (v := ?vv19) rfl (by kernel_rfl) (by kernel_rfl) (by kernel_rfl) (fun _ _ _ h => h) (Or.inl ⟨by rfl, ?hy19⟩) (by assumption) ?rest19
      case hy19 => (intro w hSw; (try dsimp only at hSw); go_simp; first | done | with_reducible rfl)
      try simp only [Act.put, List.getElem_toArray, List.getElem_cons_succ, List.getElem_cons_zero, List.setIfInBounds_toArray, List.set_cons_zero, List.set_cons_succ]
      refine wpAnyH_take (i := 19) (v := ?vv20) rfl (by kernel_rfl) (by kernel_rfl) (by kernel_rfl) (fun _ _ _ h => h) (Or.inl ⟨by rfl, ?hy20⟩) (by assumption) ?rest20
      case hy20 => (intro w hSw; (try dsimp only at hSw); go_simp; first | done | with_reducible rfl)
      try simp only [Act.put, List.getElem_toArray, List.getElem_cons_succ, List.getElem_cons_zero, List.setIfInBounds_toArray, List.set_cons_zero, List.set_cons_succ]
      refine wpAnyH_take (i := 20) (v := ?vv21) rfl (by kernel_rfl) (by kernel_rfl) (by kernel_rfl) (fun _ _ _ h => h) (Or.inl ⟨by rfl, ?hy21⟩) (by assumption) ?rest21
      case hy21 => (intro w hSw; (try dsimp only at hSw); go_simp; first | done | with_reducible rfl)
      try simp only [Act.put, List.getElem_toArray, List.getElem_cons_succ, List.getElem_cons_zero, List.setIfInBounds_toArray, List.set_cons_zero, List.set_cons_succ]
      refine wpAnyH_ready (rs := [21]) (by kernel_rfl) (by simp) ?_
      refine AllReadyH.cons rfl (fun K hK => ?_) AllReadyH.nil
      go_simp
      refine hK.out _ _ (HCE.out _ (below_al HB.out.drew _)).1 (fun hHeld => ?_)
      clear hK K
      try simp only [Act.put, List.getElem_toArray, List.getElem_cons_succ, List.getElem_cons_zero, List.setIfInBounds_toArray, List.set_cons_zero, List.set_cons_succ]
      refine wpAnyH_ready (rs := [22]) (by kernel_rfl) (by simp) ?_
      refine AllReadyH.cons rfl (fun K hK => ?_) AllReadyH.nil
      go_simp
      refine hK.out _ _ (HCE.out _ (below_al HB.out _).drew).1 (fun hHeld => ?_)
      clear hK K
      try simp only [Act.put, List.getElem_toArray, List.getElem_cons_succ, List.getElem_cons_zero, List.setIfInBounds_toArray, List.set_cons_zero, List.set_cons_succ]
      refine wpAnyH_done (by kernel_rfl) ?_ _
      clear hHeld d0 d1 d2 d3
      have BV : Hid (Bx w wr.heap.size [.int .i64 n, .bool false, .int .i64 sz, .string sum, .slice p1 pn q1c] 51 (wr.alloc (.cells #[.int .i64 n, .bool false, .int .i64 sz, .string sum, .slice p1 pn q1c] 51)).drew) := (Bx.made HB.out _ _).drew
      generalize (wr.alloc (.cells #[.int .i64 n, .bool false, .int .i64 sz, .string sum, .slice p1 pn q1c] 51)).drew = w1 at *
      obtain ⟨-, d0, d1, d2, d3⟩ := HCE.out _ BV.out.b
      go_wp2
      refine wp_region_held_drew (S := (fun w' => w'.cell? ⟨b2, o2 + k * 4, none⟩ = some (.int .i64 n) ∧ w'.cell? ⟨b2, o2 + k * 4 + 1, none⟩ = some (.int .i64 sz) ∧ w'.cell? ⟨b2, o2 + k * 4 + 2, none⟩ = some (.string sum) ∧ w'.cell? ⟨b2, o2 + k * 4 + 3, none⟩ = some (.slice p2 pn q2c))) (by kernel_rfl) ⟨d0, d1, d2, d3⟩ (fun hHeld => ?_)
      refine wpAnyH_take (i := 0) (v := ?vv22) rfl (by kernel_rfl) (by kernel_rfl) (by kernel_rfl) (fun _ _ _ h => h) (Or.inl ⟨by rfl, ?hy22⟩) (by assumption) ?rest22
      case hy22 => (intro w hSw; (try dsimp only at hSw); go_simp; first | done | with_reducible rfl)
      try simp only [Act.put, List.getElem_toArray, List.getElem_cons_succ, List.getElem_cons_zero, List.setIfInBounds_toArray, List.set_cons_zero, List.set_cons_succ]
      refine wpAnyH_take (i := 1) (v := ?vv23) rfl (by kernel_rfl) (by kernel_rfl) (by kernel_rfl) (fun _ _ _ h => h) (Or.inl ⟨by rfl, ?hy23⟩) (by assumption) ?rest23
      case hy23 => (intro w hSw; (try dsimp only at hSw); go_simp; first | done | with_reducible rfl)
      try simp only [Act.put, List.getElem_toArray, List.getElem_cons_succ, List.getElem_cons_zero, List.setIfInBounds_toArray, List.set_cons_zero, List.set_cons_succ]
      refine wpAnyH_take (i := 2) (v := ?vv24) rfl (by kernel_rfl) (by kernel_rfl) (by kernel_rfl) (fun _ _ _ h => h) (Or.inl ⟨by rfl, ?hy24⟩) (by assumption) ?rest24
      case hy24 => (intro w hSw; (try dsimp only at hSw); go_simp; first | done | with_reducible rfl)
      try simp only [Act.put, List.getElem_toArray, List.getElem_cons_succ, List.getElem_cons_zero, List.setIfInBounds_toArray, List.set_cons_zero, List.set_cons_succ]
      refine wpAnyH_take (i := 3) (v := ?vv25) rfl (by kernel_rfl) (by kernel_rfl) (by kernel_rfl) (fun _ _ _ h => h) (Or.inl ⟨by rfl, ?hy25⟩) (by assumption) ?rest25
      case hy25 => (intro w hSw; (try dsimp only at hSw); go_simp; first | done | with_reducible rfl)
      try simp only [Act.put, List.getElem_toArray, List.getElem_cons_succ, List.getElem_cons_zero, List.setIfInBounds_toArray, List.set_cons_zero, List.set_cons_succ]
      refine wpAnyH_take (i := 4) (v := ?vv26) rfl (by kernel_rfl) (by kernel_rfl) (by kernel_rfl) (fun _ _ _ h => h) (Or.inl ⟨by rfl, ?hy26⟩) (by assumption) ?rest26
      case hy26 => (intro w hSw; (try dsimp only at hSw); go_simp; first | done | with_reducible rfl)
      try simp only [Act.put, List.getElem_toArray, List.getElem_cons_succ, List.getElem_cons_zero, List.setIfInBounds_toArray, List.set_cons_zero, List.set_cons_succ]
      refine wpAnyH_take (i := 5) (v := ?vv27) rfl (by kernel_rfl) (by kernel_rfl) (by kernel_rfl) (fun _ _ _ h => h) (Or.inl ⟨by rfl, ?hy27⟩) (by assumption) ?rest27
      case hy27 => (intro w hSw; (try dsimp only at hSw); go_simp; first | done | with_reducible rfl)
      try simp only [Act.put, List.getElem_toArray, List.getElem_cons_succ, List.getElem_cons_zero, List.setIfInBounds_toArray, List.set_cons_zero, List.set_cons_succ]
      refine wpAnyH_take (i := 6) (v := ?vv28) rfl (by kernel_rfl) (by kernel_rfl) (by kernel_rfl) (fun _ _ _ h => h) (Or.inl ⟨by rfl, ?hy28⟩) (by assumption) ?rest28
      case hy28 => (intro w hSw; (try dsimp only at hSw); go_simp; first | done | with_reducible rfl)
      try simp only [Act.put, List.getElem_toArray, List.getElem_cons_succ, List.getElem_cons_zero, List.setIfInBounds_toArray, List.set_cons_zero, List.set_cons_succ]
      refine wpAnyH_take (i := 7) (v := ?vv29) rfl (by kernel_rfl) (by kernel_rfl) (by kernel_rfl) (fun _ _ _ h => h) (Or.inl ⟨by rfl, ?hy29⟩) (by assumption) ?rest29
      case hy29 => (intro w hSw; (try dsimp only at hSw); go_simp; first | done | with_reducible rfl)
      try simp only [Act.put, List.getElem_toArray, List.getElem_cons_succ, List.getElem_cons_zero, List.setIfInBounds_toArray, List.set_cons_zero, List.set_cons_succ]
      refine wpAnyH_take (i := 8) (v := ?vv30) rfl (by kernel_rfl) (by kernel_rfl) (by kernel_rfl) (fun _ _ _ h => h) (Or.inl ⟨by rfl, ?hy30⟩) (by assumption) ?rest30
      case hy30 => (intro w hSw; (try dsimp only at hSw); go_simp; first | done | with_reducible rfl)
      try simp only [Act.put, List.getElem_toArray, List.getElem_cons_succ, List.getElem_cons_zero, List.setIfInBounds_toArray, List.set_cons_zero, List.set_cons_succ]
      refine wpAnyH_take (i := 9) (v := ?vv31) rfl (by kernel_rfl) (by kernel_rfl) (by kernel_rfl) (fun _ _ _ h => h) (Or.inl ⟨by rfl, ?hy31⟩) (by assumption) ?rest31
      case hy31 => (intro w hSw; (try dsimp only at hSw); go_simp; first | done | with_reducible rfl)
      try simp only [Act.put, List.getElem_toArray, List.getElem_cons_succ, List.getElem_cons_zero, List.setIfInBounds_toArray, List.set_cons_zero, List.set_cons_succ]
      refine wpAnyH_take (i := 10) (v := ?vv32) rfl (by kernel_rfl) (by kernel_rfl) (by kernel_rfl) (fun _ _ _ h => h) (Or.inl ⟨by rfl, ?hy32⟩) (by assumption) ?rest32
      case hy32 => (intro w hSw; (try dsimp only at hSw); go_simp; first | done | with_reducible rfl)
      try simp only [Act.put, List.getElem_toArray, List.getElem_cons_succ, List.getElem_cons_zero, List.setIfInBounds_toArray, List.set_cons_zero, List.set_cons_succ]
      refine wpAnyH_take (i := 11) (v := ?vv33) rfl (by kernel_rfl) (by kernel_rfl) (by kernel_rfl) (fun _ _ _ h => h) (Or.inl ⟨by rfl, ?hy33⟩) (by assumption) ?rest33
      case hy33 => (intro w hSw; (try dsimp only at hSw); go_simp; first | done | with_reducible rfl)
      try simp only [Act.put, List.getElem_toArray, List.getElem_cons_succ, List.getElem_cons_zero, List.setIfInBounds_toArray, List.set_cons_zero, List.set_cons_succ]
      refine wpAnyH_take (i := 12) (v := ?vv34) rfl (by kernel_rfl) (by kernel_rfl) (by kernel_rfl) (fun _ _ _ h => h) (Or.inl ⟨by rfl, ?hy34⟩) (by assumption) ?rest34
      case hy34 => (intro w hSw; (try dsimp only at hSw); go_simp; first | done | with_reducible rfl)
      try simp only [Act.put, List.getElem_toArray, List.getElem_cons_succ, List.getElem_cons_zero, List.setIfInBounds_toArray, List.set_cons_zero, List.set_cons_succ]
      refine wpAnyH_take (i := 13) (v := ?vv35) rfl (by kernel_rfl) (by kernel_rfl) (by kernel_rfl) (fun _ _ _ h => h) (Or.inl ⟨by rfl, ?hy35⟩) (by assumption) ?rest35
      case hy35 => (intro w hSw; (try dsimp only at hSw); go_simp; first | done | with_reducible rfl)
      try simp only [Act.put, List.getElem_toArray, List.getElem_cons_succ, List.getElem_cons_zero, List.setIfInBounds_toArray, List.set_cons_zero, List.set_cons_succ]
      refine wpAnyH_take (i := 14) (v := ?vv36) rfl (by kernel_rfl) (by kernel_rfl) (by kernel_rfl) (fun _ _ _ h => h) (Or.inl ⟨by rfl, ?hy36⟩) (by assumption) ?rest36
      case hy36 => (intro w hSw; (try dsimp only at hSw); go_simp; first | done | with_reducible rfl)
      try simp only [Act.put, List.getElem_toArray, List.getElem_cons_succ, List.getElem_cons_zero, List.setIfInBounds_toArray, List.set_cons_zero, List.set_cons_succ]
      refine wpAnyH_take (i := 15) (v := ?vv37) rfl (by kernel_rfl) (by kernel_rfl) (by kernel_rfl) (fun _ _ _ h => h) (Or.inl ⟨by rfl, ?hy37⟩) (by assumption) ?rest37
      case hy37 => (intro w hSw; (try dsimp only at hSw); go_simp; first | done | with_reducible rfl)
      try simp only [Act.put, List.getElem_toArray, List.getElem_cons_succ, List.getElem_cons_zero, List.setIfInBounds_toArray, List.set_cons_zero, List.set_cons_succ]
      refine wpAnyH_take (i := 16) (v := ?vv38) rfl (by kernel_rfl) (by kernel_rfl) (by kernel_rfl) (fun _ _ _ h => h) (Or.inl ⟨by rfl, ?hy38⟩) (by assumption) ?rest38
      case hy38 => (intro w hSw; (try dsimp only at hSw); go_simp; first | done | with_reducible rfl)
      try simp only [Act.put, List.getElem_toArray, List.getElem_cons_succ, List.getElem_cons_zero, List.setIfInBounds_toArray, List.set_cons_zero, List.set_cons_succ]
      refine wpAnyH_take (i := 17) (v := ?vv39) rfl (by kernel_rfl) (by kernel_rfl) (by kernel_rfl) (fun _ _ _ h => h) (Or.inl ⟨by rfl, ?hy39⟩) (by assumption) ?rest39
      case hy39 => (intro w hSw; (try dsimp only at hSw); go_simp; first | done | with_reducible rfl)
      try simp only [Act.put, List.getElem_toArray, List.getElem_cons_succ, List.getElem_cons_zero, List.setIfInBounds_toArray, List.set_cons_zero, List.set_cons_succ]
      refine wpAnyH_take (i := 18) (v := ?vv40) rfl (by kernel_rfl) (by kernel_rfl) (by kernel_rfl) (fun _ _ _ h => h) (Or.inl ⟨by rfl, ?hy40⟩) (by assumption) ?rest40
      case hy40 => (intro w hSw; (try dsimp only at hSw); go_simp; first | done | with_reducible rfl)
      try simp only [Act.put, List.getElem_toArray, List.getElem_cons_succ, List.getElem_cons_zero, List.setIfInBounds_toArray, List.set_cons_zero, List.set_cons_succ]
      refine wpAnyH_take (i := 19) (v := ?vv41) rfl (by kernel_rfl) (by kernel_rfl) (by kernel_rfl) (fun _ _ _ h => h) (Or.inl ⟨by rfl, ?hy41⟩) (by assumption) ?rest41
      case hy41 => (intro w hSw; (try dsimp only at hSw); go_simp; first | done | with_reducible rfl)
      try simp only [Act.put, List.getElem_toArray, List.getElem_cons_succ, List.getElem_cons_zero, List.setIfInBounds_toArray, List.set_cons_zero, List.set_cons_succ]
      refine wpAnyH_take (i := 20) (v := ?vv42) rfl (by kernel_rfl) (by kernel_rfl) (by kernel_rfl) (fun _ _ _ h => h) (Or.inl ⟨by rfl, ?hy42⟩) (by assumption) ?rest42
      case hy42 => (intro w hSw; (try dsimp only at hSw); go_simp; first | done | with_reducible rfl)
      try simp only [Act.put, List.getElem_toArray, List.getElem_cons_succ, List.getElem_cons_zero, List.setIfInBounds_toArray, List.set_cons_zero, List.set_cons_succ]
      refine wpAnyH_ready (rs := [21]) (by kernel_rfl) (by simp) ?_
      refine AllReadyH.cons rfl (fun K hK => ?_) AllReadyH.nil
      go_simp
      refine hK.out _ _ (HCE.out _ (below_al BV.out.b.drew _)).2 (fun hHeld => ?_)
      clear hK K
      try simp only [Act.put, List.getElem_toArray, List.getElem_cons_succ, List.getElem_cons_zero, List.setIfInBounds_toArray, List.set_cons_zero, List.set_cons_succ]
      refine wpAnyH_ready (rs := [22]) (by kernel_rfl) (by simp) ?_
      refine AllReadyH.cons rfl (fun K hK => ?_) AllReadyH.nil
      go_simp
      refine hK.out _ _ (HCE.out _ (below_al BV.out.b _).drew).2 (fun hHeld => ?_)
      clear hK K
      try simp only [Act.put, List.getElem_toArray, List.getElem_cons_succ, List.getElem_cons_zero, List.setIfInBounds_toArray, List.set_cons_zero, List.set_cons_succ]
      refine wpAnyH_done (by kernel_rfl) ?_ _
      clear hHeld d0 d1 d2 d3
      have BU : Hid (Bx w w1.heap.size [.int .i64 n, .bool false, .int .i64 sz, .string sum, .slice p2 pn q2c] 51 (w1.alloc (.cells #[.int .i64 n, .bool false, .int .i64 sz, .string sum, .slice p2 pn q2c] 51)).drew) := (Bx.made BV.out.b _ _).drew
      have BW := hid ((BV.out.al (.cells #[.int .i64 n, .bool false, .int .i64 sz, .string sum, .slice p2 pn q2c] 51)).drew)
      generalize (w1.alloc (.cells #[.int .i64 n, .bool false, .int .i64 sz, .string sum, .slice p2 pn q2c] 51)).drew = w2 at *
      obtain ⟨⟨r0, r1, r2, r3, r4⟩, -⟩ := BW.out.may4
      obtain ⟨⟨s0, s1, s2, s3, s4⟩, -⟩ := BU.out.may4
      have S3 := hid (SM.out _ BW.out.b)
      clear SM BV BU
      go_wp2_with fail
      refine S3.out.mono ?_
      rintro e w3 ⟨rfl, b3⟩
      have B3 := hid (BW.out.next b3)
      clear S3 b3 BW r0 r1 r2 r3 r4 s0 s1 s2 s3 s4 HB
      go_wp2
      exact ⟨⟨k + 1, HLT.out, by first | rw [hwk] | rfl | simp, B3.out.b⟩, by (try rw [hwk]); have := HLT.out; simp [intOf]; omega⟩
    · have hd : decide ((k : Int) < (N : Int)) = false := decide_eq_false (by omega)
      have hd2 : decide (k < N) = false := decide_eq_false hlt
      clear HC HL hlt hk
      go_wp2
      go_ret
      exact ⟨rfl, HB.out⟩
end Go.Proofs.Ytbiapepalkdkdab
namespace Go.Proofs.Ytbiapepalkdkdab
open Go.RowKit Go.Maps
set_option linter.unusedVariables false
set_option linter.unusedSimpArgs false

theorem elRK : ElT 54 92 2 24 := ⟨Try.underlying54, ⟨.agg #[.int .i64 0, .string ⟨#[]⟩], by kernel_rfl, rfl⟩, by decide⟩
theorem pkC_cell (x : Pk) : ∀ u ∈ pkC x, u.oneCell' = true := by
  intro u hu
  simp [pkC] at hu
  rcases hu with rfl | rfl <;> rfl
set_option maxRecDepth 100000 in
set_option maxHeartbeats 2000000 in
theorem picked_any (v : Value) (ks : List Pk) (w : World) (hv : PkI w v ks) (hl : ks.length * 24 ≤ 140737488355328) : Calls Try.prog 21 #[v] w fun e w' => (∃ ad cap, e = .returned (.slice ad ks.length cap) ∧ PkI w' (.slice ad ks.length cap) ks) ∧ Below w.heap.size w w' := by
  obtain ⟨ad, cap, rfl, hc⟩ := hv.form
  have HC := hid hc
  have HL := hid hl
  have HTK : Hid (∀ (k : Nat) (hk : k < ks.length), kqC (ks.take (k + 1)) = kqC (ks.take k) ++ pkC ks[k]) := fun k hk => kqC_take ks k hk
  have HZ : Hid (ks.take ks.length = ks) := List.take_length
  clear hc hv hl
  go_enter Try.func21, Try.ntmps21
  go_wp2
  go_loopw [3, 4] (fun o i wr => ∃ (k : Nat) (ad1 : Option Addr) (cp1 : Nat), k ≤ ks.length ∧ o = .slice ad1 k cp1 ∧ i = .int .i64 (k : Int) ∧ Hid (wr.ownsRow w.heap.size 92 2 (.slice ad1 k cp1) k (kqC (ks.take k))) ∧ Hid (Below w.heap.size w wr)) (fun _ i _ => ks.length - (intOf i).toNat)
  case atStart => exact ⟨0, none, 0, Nat.zero_le _, rfl, rfl, ⟨rfl, .inl ⟨rfl, rfl⟩⟩, Below.refl _ _⟩
  case round =>
    obtain ⟨k, ad1, cp1, hk, rfl, rfl, HR, HB⟩ := hrel
    by_cases hlt : k < ks.length
    · have hk1 : (k : Int) < (ks.length : Int) := by omega
      have hk0 : (0 : Int) ≤ (k : Int) := by omega
      have hwk : wrap64 ((k : Int) + 1) = ((k + 1 : Nat) : Int) := by have := HL.out; rw [IntWalk.wrap64_in _ (by omega)]; omega
      obtain ⟨b, off, rfl, hb, c0, c1⟩ := HC.out k hlt
      have d0 := (HB.out.cell (p := ⟨b, off + k * 2, none⟩) hb).trans c0
      have d1 := (HB.out.cell (p := ⟨b, off + k * 2 + 1, none⟩) hb).trans c1
      have HT := hid (HTK.out k hlt)
      have HLT := hid hlt
      have HQ1 : Hid (k + 1 ≤ 4611686018427387904) := by have := HL.out; show _ ≤ _; omega
      have HQ2 : Hid ((k + 1) * 24 ≤ 140737488355328) := by have := HL.out; show _ ≤ _; omega
      clear HC HL HTK HZ c0 c1 hb
      generalize ks[k] = y at *
      clear hk hlt
      obtain ⟨n, su⟩ := y
      simp only at *
      have HGA := hid ((keep_alloc (fun _ => False) wr (.cells #[.int .i64 n, .string su] 92)).ownsRow HR.out (fun _ _ h => h))
      have HGX : Hid (GSrc (wr.alloc (.cells #[.int .i64 n, .string su] 92)) (.slice (some ⟨wr.heap.size, 0, none⟩) 1 1) 1 (pkC ⟨n, su⟩)) := gsrc_block (heap_alloc_new _ _)
      have HSZ : Hid (w.heap.size ≤ (wr.alloc (.cells #[.int .i64 n, .string su] 92)).heap.size) := Nat.le_trans HB.out.size (keep_alloc (fun _ => False) _ _).size
      have HO1 := hid (pkC_cell ⟨n, su⟩)
      have HX2 : Hid ((pkC ⟨n, su⟩).length = 1 * 2) := rfl
      have FIN : Hid (∀ ad' cap' w', w'.ownsRow w.heap.size 92 2 (.slice ad' (k + 1) cap') (k + 1) (kqC (ks.take k) ++ pkC ⟨n, su⟩) → Keep (fun j => (Value.slice ad1 k cp1).ownBlock = some j) (wr.alloc (.cells #[.int .i64 n, .string su] 92)) w' → Hid (w'.ownsRow w.heap.size 92 2 (.slice ad' (k + 1) cap') (k + 1) (kqC (ks.take (k + 1)))) ∧ Hid (Below w.heap.size w w')) := fun ad' cap' w' hr hk' => by
        refine ⟨?_, (below_al HB.out _).trans (keep_below hk' (fun j hj e => by have := ownsRow_ge HGA.out e; omega) HSZ.out)⟩
        show World.ownsRow _ _ _ _ _ _ _
        rw [HT.out]; exact hr
      clear HT HR HB
      generalize pkC ⟨n, su⟩ = XS at *
      generalize kqC (ks.take k) = PA at *
      go_wp2_with (at_builtin; refine wpl_gappL rfl _ _ elRK rfl w.heap.size (.slice ad1 k cp1) (.slice (some ⟨wr.heap.size, 0, none⟩) 1 1) PA XS k 1 (k + 1) rfl rfl rfl HGA.out HSZ.out HGX.out HX2.out HO1.out HQ1.out HQ2.out ?_; intro ad' cap' w' hr' hk')
      obtain ⟨F1, F2⟩ := FIN.out _ _ _ hr' hk'
      clear hr' hk' FIN HGA HGX HSZ d0 d1
      go_wp2
      exact ⟨⟨k + 1, _, _, HLT.out, rfl, by first | rw [hwk] | rfl | simp, F1, F2⟩, by (try rw [hwk]); have := HLT.out; simp [intOf]; omega⟩
    · have hke : k = ks.length := by omega
      have hd : decide ((k : Int) < (ks.length : Int)) = false := decide_eq_false (by omega)
      have hd2 : decide (k < ks.length) = false := decide_eq_false hlt
      subst hke
      rw [HZ.out] at HR
      clear HC HL HTK HZ hlt hk
      go_wp2
      go_ret
      exact ⟨⟨ad1, cp1, rfl, RowC.own HR.out⟩, HB.out⟩
theorem find_first {α : Type} (p : α → Bool) : ∀ (q : List α) (i : Nat) (h : i < q.length), (∀ j (hj : j < i), p (q[j]'(by omega)) = false) → p q[i] = true → q.find? p = some q[i]
  | [], i, h, _, _ => absurd h (by simp)
  | x :: r, 0, _, _, hp => by simp only [List.getElem_cons_zero] at hp ⊢; rw [List.find?_cons_of_pos hp]
  | x :: r, i + 1, h, hn, hp => by
    have h0 := hn 0 (by omega)
    simp only [List.getElem_cons_zero] at h0
    simp only [List.getElem_cons_succ] at hp ⊢
    rw [List.find?_cons_of_neg (by rw [h0]; simp)]
    exact find_first p r i (by simpa using h) (fun j hj => by have := hn (j + 1) (by omega); simpa using this) hp
theorem find_nothing {α : Type} (p : α → Bool) (q : List α) (h : ∀ i (hi : i < q.length), p q[i] = false) : q.find? p = none := by
  rw [List.find?_eq_none]
  intro x hx
  obtain ⟨i, hi, rfl⟩ := List.getElem_of_mem hx
  rw [h i hi]
  simp
/-- where a pick's part stands -/
def AtR (q : List (Value × Pt)) (k : Pk) (j : Int) : Prop := (j = -1 ∧ pk1 (tqL q) k = none) ∨ ∃ (i : Nat) (hi : i < q.length), j = (i : Int) ∧ pk1 (tqL q) k = some q[i].2 ∧ pq1 q k = some q[i]
theorem atR_found {q : List (Value × Pt)} {k : Pk} {i : Nat} (hi : i < q.length) (hn : ∀ j (hj : j < i), nmK k (q[j]'(by omega)).2 = false) (h : nmK k q[i].2 = true) : AtR q k (i : Int) := by
  have h1 : pq1 q k = some q[i] := find_first (fun y : Value × Pt => nmK k y.2) q i hi hn h
  refine .inr ⟨i, hi, rfl, ?_, h1⟩
  rw [← pq1_eq, h1]
  rfl
theorem atR_none {q : List (Value × Pt)} {k : Pk} (hn : ∀ j (hj : j < q.length), nmK k q[j].2 = false) : AtR q k (-1) := by
  have h1 : pq1 q k = none := find_nothing (fun y : Value × Pt => nmK k y.2) q hn
  refine .inl ⟨rfl, ?_⟩
  rw [← pq1_eq, h1]
  rfl
set_option maxRecDepth 100000 in
set_option maxHeartbeats 2000000 in
theorem rat_any (v : Value) (q : List (Value × Pt)) (x : Pk) (w : World) (hv : PtI w v q) (hl : q.length ≤ 8796093022208) : Calls Try.prog 47 #[v, .agg #[.int .i64 x.n, .string x.su]] w fun e w' => (∃ j : Int, e = .returned (.int .i64 j) ∧ AtR q x j) ∧ Below w.heap.size w w' := by
  obtain ⟨ad, cap, rfl, hc⟩ := hv.form
  have HC := hid hc
  have HL := hid hl
  have BM := hid (Bx.made (Below.refl w.heap.size w) [.int .i64 x.n, .string x.su] 92)
  have HF : Hid (∀ (i : Nat) (hi : i < q.length), (∀ j (hj : j < i), nmK x (q[j]'(by omega)).2 = false) → nmK x q[i].2 = true → AtR q x (i : Int)) := fun i hi hn h => atR_found hi hn h
  have HN : Hid ((∀ j (hj : j < q.length), nmK x q[j].2 = false) → AtR q x (-1)) := fun h => atR_none h
  have HK : Hid (∀ y : Pt, nmK x y = (decide (y.n = x.n) && decide (y.sum = x.su))) := fun y => rfl
  generalize hAR : AtR q x = AR at *
  clear hc hv hl hAR
  obtain ⟨xn, xsu⟩ := x
  simp only at *
  go_enter Try.func47, Try.ntmps47
  go_wp2
  go_loopw [5] (fun i wr => ∃ (k : Nat), k ≤ q.length ∧ i = .int .i64 (k : Int) ∧ Hid (Bx w w.heap.size [.int .i64 xn, .string xsu] 92 wr) ∧ Hid (∀ j (hj : j < k) (hq : j < q.length), nmK ⟨xn, xsu⟩ q[j].2 = false)) (fun i _ => q.length - (intOf i).toNat)
  case atStart => exact ⟨0, Nat.zero_le _, rfl, BM, fun j hj => absurd hj (by omega)⟩
  case round =>
    clear BM
    obtain ⟨k, hk, rfl, HB, HA⟩ := hrel
    by_cases hlt : k < q.length
    · have hk1 : (k : Int) < (q.length : Int) := by omega
      have hk0 : (0 : Int) ≤ (k : Int) := by omega
      have hwk : wrap64 ((k : Int) + 1) = ((k + 1 : Nat) : Int) := by have := HL.out; rw [IntWalk.wrap64_in _ (by omega)]; omega
      obtain ⟨b, off, rfl, hb, c0, c1, c2, c3, hp⟩ := HC.out k hlt
      have d0 := (HB.out.b.cell (p := ⟨b, off + k * 4, none⟩) hb).trans c0
      have d2 := (HB.out.b.cell (p := ⟨b, off + k * 4 + 2, none⟩) hb).trans c2
      have y0 := HB.out.row.cellAt (o := 0) rfl
      have y1 := HB.out.row.cellAt (o := 1) rfl
      have F1 := hid (HF.out k hlt (fun j hj => HA.out j hj (by omega)))
      have HK1 := hid (HK.out q[k].2)
      have HG : Hid (nmK ⟨xn, xsu⟩ q[k].2 = false → ∀ j (hj : j < k + 1) (hq : j < q.length), nmK ⟨xn, xsu⟩ q[j].2 = false) := fun h j hj hq => by
        by_cases e : j = k
        · subst e; exact h
        · exact HA.out j (by omega) hq
      have HLT := hid hlt
      clear HC c0 c1 c2 c3 hp hb HL HF HN HK HA
      generalize q[k].2 = z at *
      clear hk hlt
      obtain ⟨zn, zsz, zsum, zps⟩ := z
      simp only at *
      by_cases h1 : zn = xn
      · subst h1
        have g0 : (zn == zn) = true := beq_self_eq_true _
        by_cases h2 : zsum = xsu
        · subst h2
          have A1 := hid (F1.out (by rw [HK1.out]; simp))
          clear F1 HK1 HG
          go_wp2
          go_quiet (fail)
          have B2 := hid (HB.out.drewN nq)
          clear HB y0 y1 d0 d2
          go_wp2
          go_ret
          exact ⟨⟨_, rfl, A1.out⟩, B2.out.b⟩
        · obtain ⟨s1, s2, s3⟩ := str_ne3 _ _ h2
          have G1 := hid (HG.out (by rw [HK1.out, decide_eq_false h2, Bool.and_false]))
          clear F1 HK1 HG h2
          go_wp2
          go_quiet (fail)
          have B2 := hid (HB.out.drewN nq)
          clear HB y0 y1 d0 d2
          go_wp2
          exact ⟨⟨k + 1, HLT.out, by first | rw [hwk] | rfl | simp, B2, G1⟩, by (try rw [hwk]); have := HLT.out; simp [intOf]; omega⟩
      · have g0 : (zn == xn) = false := beq_eq_false_iff_ne.2 h1
        have G1 := hid (HG.out (by rw [HK1.out, decide_eq_false h1, Bool.false_and]))
        clear F1 HK1 HG h1
        go_wp2
        go_quiet (fail)
        have B2 := hid (HB.out.drewN nq)
        clear HB y0 y1 d0 d2
        go_wp2
        exact ⟨⟨k + 1, HLT.out, by first | rw [hwk] | rfl | simp, B2, G1⟩, by (try rw [hwk]); have := HLT.out; simp [intOf]; omega⟩
    · have hke : k = q.length := by omega
      have hd : decide ((k : Int) < (q.length : Int)) = false := decide_eq_false (by omega)
      have hd2 : decide (k < q.length) = false := decide_eq_false hlt
      have A1 := hid (HN.out (fun j hj => HA.out j (by omega) hj))
      clear HC HL HF HN HK HA hke hlt hk
      go_wp2
      go_ret
      exact ⟨⟨_, rfl, A1.out⟩, HB.out.b⟩
end Go.Proofs.Ytbiapepalkdkdab
namespace Go.Proofs.Ytbiapepalkdkdab
open Go.RowKit Go.Maps
set_option linter.unusedVariables false
set_option linter.unusedSimpArgs false

/-- the boxes of the document's Join: the result's, the one of nothing; pieces and sums that grow -/
structure RjS (w : World) (ps : List Pc) (sm : List ByteArray) (pv sv : Value) (W : World) : Prop where
  r4 : RowIs W w.heap.size [.int .i64 0, .bool false, .int .i64 0, .string ⟨#[]⟩, .slice none 0 0] 51
  r6 : RowIs W (w.heap.size + 1) [.int .i64 0, .bool false, .int .i64 0, .string ⟨#[]⟩, .slice none 0 0] 51
  p : W.ownsRow (w.heap.size + 2) 88 2 pv ps.length (pcsC ps)
  s : W.ownsRow (w.heap.size + 2) 9 1 sv sm.length (ss sm)
  b : Below w.heap.size w W
section
variable {w W W' : World} {ps : List Pc} {sm : List ByteArray} {pv sv : Value}
theorem RjS.next (h : RjS w ps sm pv sv W) (hb : Below W.heap.size W W') : RjS w ps sm pv sv W' :=
  ⟨h.r4.keep (hb.keep (fun _ => False)) (fun h => h), h.r6.keep (hb.keep (fun _ => False)) (fun h => h), (hb.keep (fun _ => False)).ownsRow h.p (fun _ _ h => h), (hb.keep (fun _ => False)).ownsRow h.s (fun _ _ h => h), below_on h.b hb⟩
theorem RjS.drewN (h : RjS w ps sm pv sv W) (n : Nat) : RjS w ps sm pv sv (W.drewN n) := h.next (below_drewN (Below.refl _ _) n)
theorem RjS.al (h : RjS w ps sm pv sv W) (o : Obj) : RjS w ps sm pv sv (W.alloc o) := h.next ((Below.refl _ _).alloc (Nat.le_refl _) o)
theorem RjS.size (h : RjS w ps sm pv sv W) : w.heap.size + 2 ≤ W.heap.size := h.r6.lt
theorem RjS.cells (h : RjS w ps sm pv sv W) : (W.cell? ⟨w.heap.size + 1, 0, none⟩ = some (.int .i64 0) ∧ W.cell? ⟨w.heap.size + 1, 1, none⟩ = some (.bool false) ∧ W.cell? ⟨w.heap.size + 1, 2, none⟩ = some (.int .i64 0) ∧ W.cell? ⟨w.heap.size + 1, 3, none⟩ = some (.string ⟨#[]⟩) ∧ W.cell? ⟨w.heap.size + 1, 4, none⟩ = some (.slice none 0 0)) ∧ (W.cell? ⟨w.heap.size, 0, none⟩ = some (.int .i64 0) ∧ W.cell? ⟨w.heap.size, 1, none⟩ = some (.bool false) ∧ W.cell? ⟨w.heap.size, 2, none⟩ = some (.int .i64 0) ∧ W.cell? ⟨w.heap.size, 3, none⟩ = some (.string ⟨#[]⟩) ∧ W.cell? ⟨w.heap.size, 4, none⟩ = some (.slice none 0 0)) ∧ (W.frozen? ⟨w.heap.size, 0, none⟩ = false ∧ W.frozen? ⟨w.heap.size, 1, none⟩ = false ∧ W.frozen? ⟨w.heap.size, 2, none⟩ = false ∧ W.frozen? ⟨w.heap.size, 3, none⟩ = false ∧ W.frozen? ⟨w.heap.size, 4, none⟩ = false) :=
  ⟨⟨h.r6.cellAt rfl, h.r6.cellAt rfl, h.r6.cellAt rfl, h.r6.cellAt rfl, h.r6.cellAt rfl⟩, ⟨h.r4.cellAt rfl, h.r4.cellAt rfl, h.r4.cellAt rfl, h.r4.cellAt rfl, h.r4.cellAt rfl⟩, h.r4.frozen, h.r4.frozen, h.r4.frozen, h.r4.frozen, h.r4.frozen⟩
theorem RjS.fin (h : RjS w ps sm pv sv W) (x0 x1 x2 x3 x4 : Value) : Bx w w.heap.size [x0, x1, x2, x3, x4] 51 (((((W.setCell ⟨w.heap.size, 0, none⟩ x0).setCell ⟨w.heap.size, 1, none⟩ x1).setCell ⟨w.heap.size, 2, none⟩ x2).setCell ⟨w.heap.size, 3, none⟩ x3).setCell ⟨w.heap.size, 4, none⟩ x4) ∧ Keep (· = w.heap.size) W (((((W.setCell ⟨w.heap.size, 0, none⟩ x0).setCell ⟨w.heap.size, 1, none⟩ x1).setCell ⟨w.heap.size, 2, none⟩ x2).setCell ⟨w.heap.size, 3, none⟩ x3).setCell ⟨w.heap.size, 4, none⟩ x4) :=
  (show Bx w w.heap.size [.int .i64 0, .bool false, .int .i64 0, .string ⟨#[]⟩, .slice none 0 0] 51 W from ⟨h.r4, h.b⟩).set54 (Nat.le_refl _) x0 x1 x2 x3 x4
theorem RjS.fin0 (h : RjS w ps sm pv sv W) : Bx w w.heap.size [.int .i64 0, .bool false, .int .i64 0, .string ⟨#[]⟩, .slice none 0 0] 51 (((((W.setCell ⟨w.heap.size, 0, none⟩ (.int .i64 0)).setCell ⟨w.heap.size, 1, none⟩ (.bool false)).setCell ⟨w.heap.size, 2, none⟩ (.int .i64 0)).setCell ⟨w.heap.size, 3, none⟩ (.string ⟨#[]⟩)).setCell ⟨w.heap.size, 4, none⟩ (.slice none 0 0)) := (h.fin (.int .i64 0) (.bool false) (.int .i64 0) (.string ⟨#[]⟩) (.slice none 0 0)).1
theorem RjS.app (h : RjS w ps sm pv sv W) {qs : List Pc} {pv' : Value} {n : Nat} (hn : n = (ps ++ qs).length) (hr : W'.ownsRow (w.heap.size + 2) 88 2 pv' n (pcsC ps ++ pcsC qs)) (hk : Keep (fun j => pv.ownBlock = some j) W W') : RjS w (ps ++ qs) sm pv' sv W' := by
  have hp : w.heap.size + 2 ≤ W.heap.size := h.size
  refine ⟨h.r4.keep hk (fun e => by have := ownsRow_ge h.p e; omega), h.r6.keep hk (fun e => by have := ownsRow_ge h.p e; omega), ?_, hk.ownsRow h.s (fun g hg e => rows_apart2 h.s h.p (by decide) hg e), h.b.trans (keep_below hk (fun j hj e => by have := ownsRow_ge h.p e; omega) h.b.size)⟩
  rw [hn] at hr
  rw [pcsC_app]
  exact hr
theorem RjS.appS (h : RjS w ps sm pv sv W) {x : ByteArray} {sv' : Value} (hr : W'.ownsRow (w.heap.size + 2) 9 1 sv' (sm.length + 1) (ss sm ++ [.string x])) (hk : Keep (fun j => sv.ownBlock = some j) W W') : RjS w ps (sm ++ [x]) pv sv' W' := by
  have hp : w.heap.size + 2 ≤ W.heap.size := h.size
  refine ⟨h.r4.keep hk (fun e => by have := ownsRow_ge h.s e; omega), h.r6.keep hk (fun e => by have := ownsRow_ge h.s e; omega), hk.ownsRow h.p (fun g hg e => rows_apart2 h.p h.s (by decide) hg e), ?_, h.b.trans (keep_below hk (fun j hj e => by have := ownsRow_ge h.s e; omega) h.b.size)⟩
  rw [ss_app9, List.length_append]
  exact hr
end
theorem RjS.made (w : World) : RjS w [] [] (.slice none 0 0) (.slice none 0 0) ((w.alloc (.cells #[.int .i64 0, .bool false, .int .i64 0, .string ⟨#[]⟩, .slice none 0 0] 51)).alloc (.cells #[.int .i64 0, .bool false, .int .i64 0, .string ⟨#[]⟩, .slice none 0 0] 51)) := by
  have h1 := srow w [.int .i64 0, .bool false, .int .i64 0, .string ⟨#[]⟩, .slice none 0 0] 51
  have h2 := srow (w.alloc (.cells #[.int .i64 0, .bool false, .int .i64 0, .string ⟨#[]⟩, .slice none 0 0] 51)) [.int .i64 0, .bool false, .int .i64 0, .string ⟨#[]⟩, .slice none 0 0] 51
  have hz : (w.alloc (.cells #[.int .i64 0, .bool false, .int .i64 0, .string ⟨#[]⟩, .slice none 0 0] 51)).heap.size = w.heap.size + 1 := by simp
  rw [hz] at h2
  exact ⟨h1.keep (keep_alloc (fun _ => False) _ _) (fun h => h), h2, ⟨rfl, .inl ⟨rfl, rfl⟩⟩, ⟨rfl, .inl ⟨rfl, rfl⟩⟩, below_al (below_al (Below.refl _ _) _) _⟩
/-- the same, with the part of the round in a box -/
structure RjQ (w : World) (g : Nat) (cs : List Value) (ps : List Pc) (sm : List ByteArray) (pv sv : Value) (W : World) : Prop where
  t : RjS w ps sm pv sv W
  r : RowIs W g cs 35
section
variable {w W W' : World} {g : Nat} {cs : List Value} {ps : List Pc} {sm : List ByteArray} {pv sv : Value}
theorem RjQ.cell (h : RjQ w g cs ps sm pv sv W) {o : Nat} {v : Value} (hv : cs[o]? = some v) : W.cell? ⟨g, o, none⟩ = some v := h.r.cellAt hv
theorem RjQ.app (h : RjQ w g cs ps sm pv sv W) {qs : List Pc} {pv' : Value} {n : Nat} (hn : n = (ps ++ qs).length) (hr : W'.ownsRow (w.heap.size + 2) 88 2 pv' n (pcsC ps ++ pcsC qs)) (hk : Keep (fun j => pv.ownBlock = some j) W W') : RjQ w g cs (ps ++ qs) sm pv' sv W' :=
  ⟨h.t.app hn hr hk, h.r.keep hk (box_apart h.r h.t.p (by decide))⟩
end
theorem riseK_one {ks : List Pk} (h : 1 ≤ ks.length) : riseK ks = kpF (prevK ks 1) (ks.drop 1) := by
  have h0 : 0 < ks.length := h
  have := kpF_at ks 0 h0
  simp only [List.drop_zero, Nat.zero_add] at this
  unfold riseK
  have e : prevK ks 0 = none := rfl
  rw [e] at this
  rw [this]
  rfl
theorem smT_bad {l : List Pt} {i : Nat} (hi : i + 1 < l.length) (h : l[i].sz < 64) : smT l.dropLast = true := by
  unfold smT
  rw [List.any_eq_true]
  refine ⟨l[i], ?_, decide_eq_true h⟩
  rw [List.dropLast_eq_take]
  exact List.mem_take_iff_getElem.2 ⟨i, by omega, rfl⟩
theorem smT_ok {l : List Pt} (h : ∀ i (hi : i < l.length), i + 1 < l.length → ¬ l[i].sz < 64) : smT l.dropLast = false := by
  unfold smT
  rw [List.any_eq_false]
  intro x hx
  rw [List.dropLast_eq_take] at hx
  obtain ⟨i, hi, rfl⟩ := List.mem_take_iff_getElem.1 hx
  have := h i (by omega) (by omega)
  simp only [decide_eq_true_eq]
  exact this
set_option maxRecDepth 100000 in
set_option maxHeartbeats 8000000 in
theorem rjoin_any (v : Value) (q : List (Value × Pt)) (u : Value) (ks : List Pk) (w : World) (hv : PtI w v q) (hu : PkI w u ks) (hl : q.length ≤ 8796093022208) (hs : ∀ y ∈ q, y.2.sum.size ≤ 140737488355328 ∧ y.2.ps.length ≤ 8796093022208 ∧ ∀ p ∈ y.2.ps, p.id.size ≤ 140737488355328) (hk : ks.length ≤ 8796093022208) : Calls Try.prog 20 #[v, u] w (GiveJ w (tjW (tqL q) ks) (tjE (tqL q) ks)) := by
  obtain ⟨ad, cap, rfl, hc⟩ := hv.form
  obtain ⟨au, cu, rfl, hcu⟩ := hu.form
  have HC := hid hc
  have HCU := hid hcu
  have TM := hid (RjS.made w)
  have IT := hid (rtmay_any _ q _ (hv.next TM.out.b) hl hs)
  have HLK := hid hk
  have AT : Hid (∀ (x : Pk) W, Below w.heap.size w W → Calls Try.prog 47 #[.slice ad q.length cap, .agg #[.int .i64 x.n, .string x.su]] W fun e w' => (∃ j : Int, e = .returned (.int .i64 j) ∧ AtR q x j) ∧ Below W.heap.size W w') := fun x W hW => rat_any _ q x W (hv.next hW) hl
  have HE : Hid (tjE (tqL q) ks = if (arePt (tqL q) && !ks.isEmpty && riseK ks) = true then (if pkAll (tqL q) ks = true then (if smT (pkL (tqL q) ks).dropLast = true then 141 else if loT (pkL (tqL q) ks) = true then 2 else 0) else 140) else 1) := rfl
  have HV : Hid (tjW (tqL q) ks = if tjE (tqL q) ks = 0 then ⟨0, false, szT (pkL (tqL q) ks), dgT (sumT (pkL (tqL q) ks)), psT (pkL (tqL q) ks)⟩ else vnz) := rfl
  have NIL : Hid (∀ (E : Int) (W : World), Bx w w.heap.size [.int .i64 0, .bool false, .int .i64 0, .string ⟨#[]⟩, .slice none 0 0] 51 W → GiveJ w vnz E (.returned (.tuple #[.agg #[.int .i64 0, .bool false, .int .i64 0, .string ⟨#[]⟩, .slice none 0 0], .int .i64 E])) W) := fun E W h => ⟨none, 0, rfl, pci_none _, h.b⟩
  have HIE : Hid (ks.isEmpty = decide (ks.length = 0)) := by show _ = _; cases ks <;> simp
  have HR1 : Hid (1 ≤ ks.length → riseK ks = kpF (prevK ks 1) (ks.drop 1)) := fun h => riseK_one h
  have HBADK : Hid (∀ k (hk : k < ks.length) (R : Bool), R = kpF (prevK ks k) (ks.drop k) → ptAbove (prevK ks k) ks[k].n = false → R = false) := fun k hk R h1 h2 => kp_bad hk h1 h2
  have HGOK : Hid (∀ k (hk : k < ks.length) (R : Bool), R = kpF (prevK ks k) (ks.drop k) → ptAbove (prevK ks k) ks[k].n = true → R = kpF (prevK ks (k + 1)) (ks.drop (k + 1))) := fun k hk R h1 h2 => kp_go hk h1 h2
  have HPA : Hid (∀ k (hk : k < ks.length), pk1 (tqL q) ks[k] = none → pkAll (tqL q) ks = false) := fun k hk h => pkAll_bad hk h
  have HPG : Hid (∀ k (hk : k < ks.length) (x : Pt), pkAll (tqL q) (ks.take k) = true → pk1 (tqL q) ks[k] = some x → pkAll (tqL q) (ks.take (k + 1)) = true) := fun k hk x h1 h2 => by rw [pkAll_take hk, h1, h2]; rfl
  have HPZ : Hid (pkAll (tqL q) (ks.take ks.length) = true → pkAll (tqL q) ks = true) := fun h => by rw [List.take_length] at h; exact h
  have HPL : Hid (arePt (tqL q) = true → riseK ks = true → pkAll (tqL q) ks = true → ks.length ≤ 100 ∧ (∀ k (hk : k < ks.length), ∃ x, pk1 (tqL q) ks[k] = some x) ∧ (pkL (tqL q) ks).length = ks.length ∧ (∀ x ∈ pkL (tqL q) ks, ptOk x = true) ∧ ∀ k (hk : k < ks.length) (hk2 : k < (pkL (tqL q) ks).length) (x : Pt), pk1 (tqL q) ks[k] = some x → (pkL (tqL q) ks)[k] = x) := fun h1 h2 h3 => by
    refine ⟨pk_len h1 (riseK_pw h2) h3, fun k hk => pkAll_at h3 _ (List.getElem_mem hk), pkL_len h3, fun x hx => arePt_all h1 x (pkL_mem hx), fun k hk hk2 x hx => ?_⟩
    have ht : pkAll (tqL q) (ks.take k) = true := by unfold pkAll at h3 ⊢; rw [List.all_eq_true] at h3 ⊢; exact fun y hy => h3 y (List.mem_of_mem_take hy)
    have e := pkL_take hk hx
    have hl1 := pkL_len ht
    rw [List.length_take, Nat.min_eq_left (by omega)] at hl1
    have hpre : pkL (tqL q) ks = pkL (tqL q) (ks.take (k + 1)) ++ pkL (tqL q) (ks.drop (k + 1)) := by
      unfold pkL
      rw [← List.filterMap_append, List.take_append_drop]
    have h5 : (pkL (tqL q) ks)[k]? = some x := by
      rw [hpre, e, List.append_assoc, List.getElem?_append_right (by omega), hl1, Nat.sub_self]
      rfl
    rw [List.getElem?_eq_getElem hk2] at h5
    injection h5
  clear hc hcu hu hl hs hk
  have HQS : Hid (∀ y ∈ q, ∃ a c, y.1 = .slice a y.2.ps.length c) := fun y hy => (hv.2 y hy).sl
  have HQP : Hid (∀ y ∈ q, PcI w y.1 y.2.ps) := hv.2
  clear hv
  generalize tjW (tqL q) ks = JV at *
  generalize tjE (tqL q) ks = JE at *
  generalize hIS : arePt (tqL q) = IS at *
  generalize hRB : riseK ks = RB at *
  clear hIS hRB
  generalize pkAll (tqL q) ks = PAB at *
  generalize pkL (tqL q) ks = PL at *
  go_enter Try.func20, Try.ntmps20
  go_wp2_with fail
  refine IT.out.mono ?_
  rintro e w1 ⟨rfl, b1⟩
  have T1 := hid (TM.out.next b1)
  clear IT b1 TM
  cases IS
  · have he : JE = 1 := by rw [HE.out]; simp
    subst he
    have hv' : JV = vnz := by rw [HV.out]; simp
    subst hv'
    obtain ⟨⟨n0, n1, n2, n3, n4⟩, ⟨m0, m1, m2, m3, m4⟩, f0, f1, f2, f3, f4⟩ := T1.out.cells
    have BZ := hid T1.out.fin0
    clear HE HV HIE HC HCU AT HR1 HBADK HGOK HPA HPG HPZ HPL HQS HQP HLK
    go_wp2
    exact bodyPost_ret (v := .tuple #[.agg #[.int .i64 0, .bool false, .int .i64 0, .string ⟨#[]⟩, .slice none 0 0], .int .i64 1]) (ret_vt4 (p := 4) (u := 5) rfl _ _ w.heap.size _ _ rfl rfl (run_loadVar_row _ _ _ _ _ _ _ BZ.out.row Try.underlying51 rfl (by kernel_rfl))) rfl (NIL.out _ _ BZ.out)
  by_cases h0 : ks.length = 0
  · have he : JE = 1 := by rw [HE.out, HIE.out, decide_eq_true h0]; simp
    subst he
    have hv' : JV = vnz := by rw [HV.out]; simp
    subst hv'
    have g1 : ((ks.length : Int) == 0) = true := beq_iff_eq.2 (by omega)
    obtain ⟨⟨n0, n1, n2, n3, n4⟩, ⟨m0, m1, m2, m3, m4⟩, f0, f1, f2, f3, f4⟩ := T1.out.cells
    have BZ := hid T1.out.fin0
    clear HE HV HIE HC HCU AT HR1 HBADK HGOK HPA HPG HPZ HPL HQS HQP HLK
    go_wp2
    exact bodyPost_ret (v := .tuple #[.agg #[.int .i64 0, .bool false, .int .i64 0, .string ⟨#[]⟩, .slice none 0 0], .int .i64 1]) (ret_vt4 (p := 4) (u := 5) rfl _ _ w.heap.size _ _ rfl rfl (run_loadVar_row _ _ _ _ _ _ _ BZ.out.row Try.underlying51 rfl (by kernel_rfl))) rfl (NIL.out _ _ BZ.out)
  have g1 : ((ks.length : Int) == 0) = false := beq_eq_false_iff_ne.2 (by omega)
  have HIF : Hid (ks.isEmpty = false) := by show _ = _; rw [HIE.out, decide_eq_false h0]
  have HE2 : Hid (JE = if RB = true then (if PAB = true then (if smT PL.dropLast = true then 141 else if loT PL = true then 2 else 0) else 140) else 1) := by show _ = _; rw [HE.out, HIF.out]; simp
  have HN1 : Hid (1 ≤ ks.length) := by show _ ≤ _; omega
  have HR2 := hid (HR1.out HN1.out)
  have HPL2 := hid (HPL.out (by first | rfl | trivial))
  clear HE HIE HIF h0 HR1 HPL
  go_wp2
  clear g1
  go_loopw [7] (fun i wr => ∃ (k : Nat), 1 ≤ k ∧ k ≤ ks.length ∧ i = .int .i64 (k : Int) ∧ Hid (RjS w [] [] (.slice none 0 0) (.slice none 0 0) wr) ∧ Hid (RB = kpF (prevK ks k) (ks.drop k))) (fun i _ => ks.length - (intOf i).toNat)
  case atStart => exact ⟨1, Nat.le_refl _, HN1.out, rfl, T1, HR2⟩
  case round =>
    clear T1 HR2
    obtain ⟨k, hk0, hk, rfl, TR, HR⟩ := hrel
    by_cases hlt : k < ks.length
    · have hk1 : (k : Int) < (ks.length : Int) := by omega
      have hk2 : (0 : Int) ≤ (k : Int) := by omega
      have hwk : wrap64 ((k : Int) + 1) = ((k + 1 : Nat) : Int) := by have := HLK.out; rw [IntWalk.wrap64_in _ (by omega)]; omega
      obtain ⟨m, rfl⟩ : ∃ m, k = m + 1 := ⟨k - 1, by omega⟩
      obtain ⟨b, off, rfl, hb, c0, c1⟩ := HCU.out (m + 1) hlt
      obtain ⟨b', off', e, hb', c0', c1'⟩ := HCU.out m (by omega)
      injection e with e
      injection e with e1 e2
      subst e1 e2
      have d0 := (TR.out.b.cell (p := ⟨b, off + (m + 1) * 2, none⟩) hb).trans c0
      have dp := (TR.out.b.cell (p := ⟨b, off + m * 2, none⟩) hb').trans c0'
      have hw1 : wrap64 (((m + 1 : Nat) : Int) - 1) = (m : Int) := by have := HLK.out; rw [IntWalk.wrap64_in _ (by omega)]; omega
      have hw2 : IntKind.i64.wrap (((m + 1 : Nat) : Int) - 1) = (m : Int) := by rw [IntKind.wrap_i64]; have := HLK.out; omega
      have hm0 : (0 : Int) ≤ (m : Int) := by omega
      have hm1 : (m : Int) < (ks.length : Int) := by omega
      have hpv : prevK ks (m + 1) = some ks[m].n := prevK_succ ks m (by omega)
      have HBAD := hid (HBADK.out (m + 1) hlt RB HR.out)
      have HGO := hid (HGOK.out (m + 1) hlt RB HR.out)
      rw [hpv] at HBAD HGO
      have HLT := hid hlt
      clear HC HCU HLK AT HBADK HGOK HPA HPG HPZ HPL2 HQS HQP HN1 HR c0 c1 c0' c1' hb hb' hpv
      generalize ks[m + 1].n = zn at *
      generalize ks[m].n = zp at *
      clear hk hlt hk0
      generalize hKK : m + 1 = K at *
      clear hKK
      by_cases hle : zn ≤ zp
      · have g3 : decide (zn ≤ zp) = true := decide_eq_true hle
        have hr := HBAD.out (show decide (zp < zn) = false from decide_eq_false (by omega))
        subst hr
        have he : JE = 1 := HE2.out
        subst he
        have hv' : JV = vnz := by rw [HV.out]; simp
        subst hv'
        clear HBAD HGO HE2 HV hle
        go_wp2
        go_quiet (fail)
        have T2 := hid (TR.out.drewN nq)
        clear TR d0 dp
        obtain ⟨⟨n0, n1, n2, n3, n4⟩, ⟨m0, m1, m2, m3, m4⟩, f0, f1, f2, f3, f4⟩ := T2.out.cells
        have BZ := hid T2.out.fin0
        go_wp2
        exact bodyPost_ret (v := .tuple #[.agg #[.int .i64 0, .bool false, .int .i64 0, .string ⟨#[]⟩, .slice none 0 0], .int .i64 1]) (ret_vt4 (p := 4) (u := 5) rfl _ _ w.heap.size _ _ rfl rfl (run_loadVar_row _ _ _ _ _ _ _ BZ.out.row Try.underlying51 rfl (by kernel_rfl))) rfl (NIL.out _ _ BZ.out)
      · have g3 : decide (zn ≤ zp) = false := decide_eq_false hle
        have HG := hid (HGO.out (show decide (zp < zn) = true from decide_eq_true (by omega)))
        clear HBAD HGO hle
        go_wp2
        go_quiet (fail)
        have T2 := hid (TR.out.drewN nq)
        clear TR d0 dp
        go_wp2
        exact ⟨⟨K + 1, by omega, HLT.out, by first | rw [hwk] | rfl | simp, T2, HG⟩, by (try rw [hwk]); have := HLT.out; simp [intOf]; omega⟩
    · have hke : k = ks.length := by omega
      have hd : decide ((k : Int) < (ks.length : Int)) = false := decide_eq_false (by omega)
      have hd2 : decide (k < ks.length) = false := decide_eq_false hlt
      have hr : RB = true := by rw [HR.out, hke, List.drop_length]; rfl
      subst hr
      have HE3 : Hid (JE = if PAB = true then (if smT PL.dropLast = true then 141 else if loT PL = true then 2 else 0) else 140) := HE2.out
      have HPL3 := hid (HPL2.out (by first | rfl | trivial))
      have HA0 : Hid (pkAll (tqL q) (ks.take 0) = true) := rfl
      clear HR HE2 HPL2 HBADK HGOK hke hlt hk hk0
      go_wp2
      clear hd hd2
      go_loopw [8] (fun i wr => ∃ (k : Nat), k ≤ ks.length ∧ i = .int .i64 (k : Int) ∧ Hid (RjS w [] [] (.slice none 0 0) (.slice none 0 0) wr) ∧ Hid (pkAll (tqL q) (ks.take k) = true)) (fun i _ => ks.length - (intOf i).toNat)
      case atStart => exact ⟨0, Nat.zero_le _, rfl, TR, HA0⟩
      case round =>
        clear TR HA0
        obtain ⟨k, hk, rfl, TR, HA⟩ := hrel
        by_cases hlt : k < ks.length
        · have hk1 : (k : Int) < (ks.length : Int) := by omega
          have hk2 : (0 : Int) ≤ (k : Int) := by omega
          have hwk : wrap64 ((k : Int) + 1) = ((k + 1 : Nat) : Int) := by have := HLK.out; rw [IntWalk.wrap64_in _ (by omega)]; omega
          obtain ⟨b, off, rfl, hb, c0, c1⟩ := HCU.out k hlt
          have d0 := (TR.out.b.cell (p := ⟨b, off + k * 2, none⟩) hb).trans c0
          have d1 := (TR.out.b.cell (p := ⟨b, off + k * 2 + 1, none⟩) hb).trans c1
          have A1 := hid (AT.out ks[k] wr TR.out.b)
          have HB1 := hid (HPA.out k hlt)
          have HG1 : Hid (∀ x, pk1 (tqL q) ks[k] = some x → pkAll (tqL q) (ks.take (k + 1)) = true) := fun x h => HPG.out k hlt x HA.out h
          have HLT := hid hlt
          clear HC HCU HLK AT HPA HPG HPZ HPL3 HQS HQP HN1 HA c0 c1 hb
          generalize ks[k] = z at *
          clear hk hlt
          obtain ⟨zn, zsu⟩ := z
          simp only at *
          go_wp2_with fail
          refine A1.out.mono ?_
          rintro e w2 ⟨⟨j, rfl, hj⟩, b2⟩
          have T2 := hid (TR.out.next b2)
          clear A1 b2 TR d0 d1
          rcases hj with ⟨rfl, hj⟩ | ⟨i, hi, rfl, hj, hj2⟩
          · have hp := HB1.out hj
            subst hp
            have he : JE = 140 := HE3.out
            subst he
            have hv' : JV = vnz := by rw [HV.out]; simp
            subst hv'
            clear HB1 HG1 HE3 HV hj
            obtain ⟨⟨n0, n1, n2, n3, n4⟩, ⟨m0, m1, m2, m3, m4⟩, f0, f1, f2, f3, f4⟩ := T2.out.cells
            have BZ := hid T2.out.fin0
            go_wp2
            exact bodyPost_ret (v := .tuple #[.agg #[.int .i64 0, .bool false, .int .i64 0, .string ⟨#[]⟩, .slice none 0 0], .int .i64 140]) (ret_vt4 (p := 4) (u := 5) rfl _ _ w.heap.size _ _ rfl rfl (run_loadVar_row _ _ _ _ _ _ _ BZ.out.row Try.underlying51 rfl (by kernel_rfl))) rfl (NIL.out _ _ BZ.out)
          · have HG := hid (HG1.out _ hj)
            have g3 : decide ((i : Int) < 0) = false := decide_eq_false (by omega)
            clear HB1 HG1 hj hj2 hi
            go_wp2
            exact ⟨⟨k + 1, HLT.out, by first | rw [hwk] | rfl | simp, T2, HG⟩, by (try rw [hwk]); have := HLT.out; simp [intOf]; omega⟩
        · have hke : k = ks.length := by omega
          have hd : decide ((k : Int) < (ks.length : Int)) = false := decide_eq_false (by omega)
          have hd2 : decide (k < ks.length) = false := decide_eq_false hlt
          have hp := HPZ.out (by have := HA.out; rw [hke] at this; exact this)
          subst hp
          have HE4 : Hid (JE = if smT PL.dropLast = true then 141 else if loT PL = true then 2 else 0) := HE3.out
          obtain ⟨hn1, hn0, hn2, hn3, hn4⟩ := HPL3.out (by first | rfl | trivial)
          have HALL := hid hn0
          have H100 := hid hn1
          have HLP := hid hn2
          have HOK := hid hn3
          have HAT := hid hn4
          have HBD : Hid (∀ k, 0 ≤ szT (PL.take k) ∧ szT (PL.take k) ≤ 209715200 ∧ (psT (PL.take k)).length ≤ 51200 ∧ room (sumT (PL.take k)) ≤ 7400) := fun k => by
            have ho : ∀ x ∈ PL.take k, ptOk x = true := fun x hx => hn3 x (List.mem_of_mem_take hx)
            have h1 := szT_bd ho
            have h2 := psT_bd ho
            have h4 := sumT_room ho
            have h3 : (PL.take k).length ≤ 100 := by rw [List.length_take]; omega
            exact ⟨h1.1, by omega, by omega, by omega⟩
          have HTK : Hid (∀ (k : Nat) (hk : k < PL.length), szT (PL.take (k + 1)) = szT (PL.take k) + PL[k].sz ∧ psT (PL.take (k + 1)) = psT (PL.take k) ++ PL[k].ps ∧ sumT (PL.take (k + 1)) = sumT (PL.take k) ++ [PL[k].sum]) := fun k hk => by
            rw [tk_app PL k hk, szT_app, psT_app, szT_one, psT_one, sumT_app, sumT_one]
            exact ⟨rfl, rfl, rfl⟩
          have HSL : Hid (∀ k, k ≤ ks.length → (sumT (PL.take k)).length = k) := fun k h => by show _ = _; unfold sumT; rw [List.length_map, List.length_take]; omega
          have HSMB : Hid (∀ (i : Nat) (hi : i < PL.length), i + 1 < PL.length → PL[i].sz < 64 → smT PL.dropLast = true) := fun i hi h1 h2 => smT_bad h1 h2
          have HSMO : Hid ((∀ i (hi : i < PL.length), i + 1 < PL.length → ¬ PL[i].sz < 64) → smT PL.dropLast = false) := fun h => smT_ok h
          have HZL : Hid (PL.take PL.length = PL) := List.take_length
          have HLO : Hid (loT PL = (decide (1048576 < szT PL) || decide (512 < (psT PL).length))) := rfl
          have HRM : Hid (room (sumT PL) ≤ 7400) := by have := (HBD.out PL.length).2.2.2; rw [List.take_length] at this; exact this
          have TR0 : Hid (RjS w (psT (PL.take 0)) (sumT (PL.take 0)) (.slice none 0 0) (.slice none 0 0) wr) := by show RjS w _ _ _ _ wr; have := TR.out; simpa [psT, sumT] using this
          have HZ0 : Hid (szT (PL.take 0) = 0 ∧ (psT (PL.take 0)).length = 0) := by refine ⟨?_, ?_⟩ <;> simp [szT, psT]
          clear HE3 HPL3 HA HPA HPG HPZ hke hlt hk hn0 hn1 hn2 hn3 hn4 TR
          generalize smT PL.dropLast = SB at *
          generalize loT PL = LB at *
          go_wp2
          clear hd hd2
          go_loopw [9, 10, 11, 12] (fun a c o i wr => ∃ (k : Nat) (ap : Option Addr) (np cp : Nat) (az : Option Addr) (cz : Nat), k ≤ ks.length ∧ a = .int .i64 (szT (PL.take k)) ∧ c = .slice ap np cp ∧ o = .slice az k cz ∧ i = .int .i64 (k : Int) ∧ Hid (np = (psT (PL.take k)).length ∧ RjS w (psT (PL.take k)) (sumT (PL.take k)) (.slice ap np cp) (.slice az k cz) wr) ∧ Hid (∀ i (hi : i < PL.length), i < k → i + 1 < PL.length → ¬ PL[i].sz < 64)) (fun _ _ _ i _ => ks.length - (intOf i).toNat)
          case atStart => exact ⟨0, none, 0, 0, none, 0, Nat.zero_le _, by rw [HZ0.out.1], rfl, rfl, rfl, ⟨HZ0.out.2.symm, TR0.out⟩, fun i hi h => absurd h (by omega)⟩
          case round =>
            clear TR0 HZ0
            obtain ⟨k, ap, np, cp, az, cz, hk, rfl, rfl, rfl, rfl, HR, HA⟩ := hrel
            have HNP := hid HR.out.1
            have TR := hid HR.out.2
            clear HR
            by_cases hlt : k < ks.length
            · have hk1 : (k : Int) < (ks.length : Int) := by omega
              have hk2 : (0 : Int) ≤ (k : Int) := by omega
              have hwk : wrap64 ((k : Int) + 1) = ((k + 1 : Nat) : Int) := by have := HLK.out; rw [IntWalk.wrap64_in _ (by omega)]; omega
              obtain ⟨b, off, rfl, hb, c0, c1⟩ := HCU.out k hlt
              have d0 := (TR.out.b.cell (p := ⟨b, off + k * 2, none⟩) hb).trans c0
              have d1 := (TR.out.b.cell (p := ⟨b, off + k * 2 + 1, none⟩) hb).trans c1
              have A1 := hid (AT.out ks[k] wr TR.out.b)
              have hkP : k < PL.length := by have := HLP.out; omega
              have HX1 : Hid (∀ x, pk1 (tqL q) ks[k] = some x → PL[k] = x) := fun x h => HAT.out k hlt hkP x h
              obtain ⟨xk, hxk⟩ := HALL.out k hlt
              have HXK := hid hxk
              have HSB := hid (HSMB.out k hkP)
              have hw1 : wrap64 (szT (PL.take k) + PL[k].sz) = szT (PL.take (k + 1)) := by
                have h1 := HBD.out (k + 1)
                have h2 := (HTK.out k hkP).1
                rw [← h2, IntWalk.wrap64_in _ (by omega)]
              have HT2 := hid (HTK.out k hkP).2
              have HPN : Hid (np + PL[k].ps.length ≤ 51200 ∧ np + PL[k].ps.length = (psT (PL.take k) ++ PL[k].ps).length) := by
                have h1 := HBD.out (k + 1)
                have h2 := (HTK.out k hkP).2.1
                have h3 := HNP.out
                rw [h2, List.length_append] at h1
                refine ⟨by omega, ?_⟩
                rw [List.length_append, h3]
              have HSK : Hid ((sumT (PL.take k)).length = k) := HSL.out k hk
              have HLT := hid hlt
              have HKL : Hid (k ≤ 100) := by have := H100.out; show _ ≤ _; omega
              have HA2 : Hid (¬ (PL[k].sz < 64 ∧ k + 1 < PL.length) → ∀ i (hi : i < PL.length), i < k + 1 → i + 1 < PL.length → ¬ PL[i].sz < 64) := fun h i hi h1 h2 h3 => by
                by_cases e : i = k
                · subst e; exact h ⟨h3, h2⟩
                · exact HA.out i hi (by omega) h2 h3
              have hwl : wrap64 ((ks.length : Int) - 1) = (ks.length : Int) - 1 := by have := HLK.out; have := HN1.out; rw [IntWalk.wrap64_in _ (by omega)]
              have HLP2 : Hid (PL.length = ks.length) := HLP.out
              clear HCU c0 c1 hb HLK AT HTK HBD HSL HSMB HSMO HZL HLO HRM HAT HALL HA HOK hxk
              generalize ks[k] = zz at *
              obtain ⟨kn, ksu⟩ := zz
              simp only at *
              go_wp2_with fail
              refine A1.out.mono ?_
              rintro e w2 ⟨⟨j, rfl, hj⟩, b2⟩
              have T2 := hid (TR.out.next b2)
              clear A1 b2 TR d0 d1
              rcases hj with ⟨rfl, hj⟩ | ⟨i, hi, rfl, hj, hj2⟩
              · exact absurd (hj.symm.trans HXK.out) (by simp)
              have hPk := HX1.out _ hj
              rw [hPk] at HSB hw1 HT2 HPN HA2
              obtain ⟨b3, off3, e3', hb3, z0, z1, z2, z3, hpp⟩ := HC.out i hi
              subst e3'
              have hi0 : (0 : Int) ≤ (i : Int) := by omega
              have hi1 : (i : Int) < (q.length : Int) := by omega
              have e0 := (T2.out.b.cell (p := ⟨b3, off3 + i * 4, none⟩) hb3).trans z0
              have e1 := (T2.out.b.cell (p := ⟨b3, off3 + i * 4 + 1, none⟩) hb3).trans z1
              have e2 := (T2.out.b.cell (p := ⟨b3, off3 + i * 4 + 2, none⟩) hb3).trans z2
              have e3 := (T2.out.b.cell (p := ⟨b3, off3 + i * 4 + 3, none⟩) hb3).trans z3
              have PCS0 : Hid (∀ W, Below w.heap.size w W → PcI W q[i].1 q[i].2.ps) := fun W hW => hpp.next hW
              have hpf := hpp.sl
              clear HC HQS HQP z0 z1 z2 z3 hpp hb3 hPk HX1 HXK hj hj2
              generalize q[i] = z at *
              clear hi
              obtain ⟨zv, zn, sz, sum, ps⟩ := z
              simp only at *
              obtain ⟨ad2, cap2, rfl⟩ := hpf
              generalize hpn : ps.length = pn at *
              have HPP := hid hpn
              clear hpn hk hlt hkP
              have PCS : Hid (∀ W, Below (w2.alloc (.cells #[.int .i64 zn, .int .i64 sz, .string sum, .slice ad2 pn cap2] 35)).heap.size (w2.alloc (.cells #[.int .i64 zn, .int .i64 sz, .string sum, .slice ad2 pn cap2] 35)) W → RowC W (.slice ad2 pn cap2) pn (pcsC ps)) := fun W hW => by
                have := PCS0.out W (below_on (below_al T2.out.b _) hW)
                unfold PcI at this
                rw [HPP.out] at this
                exact this
              clear PCS0
              generalize hG0 : szT (PL.take k) = S0 at *
              clear hG0
              generalize hP0 : psT (PL.take k) = P0 at *
              clear hP0
              generalize hM0 : sumT (PL.take k) = M0 at *
              clear hM0
              have Q3 : Hid (RjQ w w2.heap.size [.int .i64 zn, .int .i64 sz, .string sum, .slice ad2 pn cap2] P0 M0 (.slice ap np cp) (.slice az k cz) (w2.alloc (.cells #[.int .i64 zn, .int .i64 sz, .string sum, .slice ad2 pn cap2] 35))) := ⟨T2.out.al _, srow w2 _ _⟩
              by_cases hsm : sz < 64
              · have g5 : decide (sz < 64) = true := decide_eq_true hsm
                by_cases hla : k + 1 < PL.length
                · have g6 : decide ((k : Int) < (ks.length : Int) - 1) = true := decide_eq_true (by have := HLP2.out; omega)
                  have hsb := HSB.out hla hsm
                  subst hsb
                  have he : JE = 141 := HE4.out
                  subst he
                  have hv' : JV = vnz := by rw [HV.out]; simp
                  subst hv'
                  have y1 := Q3.out.cell (o := 1) rfl
                  have T3 := hid Q3.out.t
                  clear HSB HA2 HE4 HV HPN HT2 HSK HNP Q3 HPP PCS HKL T2 hsm hla HLP2
                  obtain ⟨⟨n0, n1, n2, n3, n4⟩, ⟨m0, m1, m2, m3, m4⟩, f0, f1, f2, f3, f4⟩ := T3.out.cells
                  have BZ := hid T3.out.fin0
                  go_wp2
                  exact bodyPost_ret (v := .tuple #[.agg #[.int .i64 0, .bool false, .int .i64 0, .string ⟨#[]⟩, .slice none 0 0], .int .i64 141]) (ret_vt4 (p := 4) (u := 5) rfl _ _ w.heap.size _ _ rfl rfl (run_loadVar_row _ _ _ _ _ _ _ BZ.out.row Try.underlying51 rfl (by kernel_rfl))) rfl (NIL.out _ _ BZ.out)
                · have g6 : decide ((k : Int) < (ks.length : Int) - 1) = false := decide_eq_false (by have := HLP2.out; omega)
                  have HA3 := hid (HA2.out (fun h => hla h.2))
                  clear HSB HA2 HE4 HV hsm hla HLP2
                  have y1 := Q3.out.cell (o := 1) rfl
                  have y3 := Q3.out.cell (o := 3) rfl
                  have HRP := hid (PCS.out _ (Below.refl _ _))
                  have HGA : Hid ((w2.alloc (.cells #[.int .i64 zn, .int .i64 sz, .string sum, .slice ad2 pn cap2] 35)).ownsRow (w.heap.size + 2) 88 2 (.slice ap np cp) np (pcsC P0)) := by have := Q3.out.t.p; rw [← HNP.out] at this; exact this
                  have HSZ := hid Q3.out.t.size
                  have FAP : Hid (∀ ad' cap' w', w'.ownsRow (w.heap.size + 2) 88 2 (.slice ad' (np + pn) cap') (np + pn) (pcsC P0 ++ pcsC ps) → Keep (fun j => (Value.slice ap np cp).ownBlock = some j) (w2.alloc (.cells #[.int .i64 zn, .int .i64 sz, .string sum, .slice ad2 pn cap2] 35)) w' → Hid (RjQ w w2.heap.size [.int .i64 zn, .int .i64 sz, .string sum, .slice ad2 pn cap2] (P0 ++ ps) M0 (.slice ad' (np + pn) cap') (.slice az k cz) w')) := fun ad' cap' w' hr hk' => Q3.out.app HPN.out.2 hr hk'
                  have HO1 := hid (pcsC_cell ps)
                  have HX2 : Hid ((pcsC ps).length = pn * 2) := by show _ = _; rw [pcsC_len, HPP.out]
                  have HQ1 : Hid (np + pn ≤ 4611686018427387904) := by have := HPN.out.1; show _ ≤ _; omega
                  have HQ2 : Hid ((np + pn) * 24 ≤ 140737488355328) := by have := HPN.out.1; show _ ≤ _; omega
                  have ENS : Hid (∀ w3 ad' cap' ad4 cap4 w', RjS w (P0 ++ ps) M0 (.slice ad' (np + pn) cap') (.slice az k cz) w3 → w'.ownsRow (w.heap.size + 2) 9 1 (.slice ad4 (k + 1) cap4) (k + 1) (ss M0 ++ [.string sum]) → Keep (fun j => (Value.slice az k cz).ownBlock = some j) (w3.alloc (.cells #[.string sum] 9)) w' → Hid (np + pn = (psT (PL.take (k + 1))).length ∧ RjS w (psT (PL.take (k + 1))) (sumT (PL.take (k + 1))) (.slice ad' (np + pn) cap') (.slice ad4 (k + 1) cap4) w')) := fun w3 ad' cap' ad4 cap4 w' h hr hk' => by
                    refine ⟨?_, ?_⟩
                    · rw [HT2.out.1, ← HPN.out.2]
                    · rw [HT2.out.1, HT2.out.2]
                      exact (h.al (.cells #[.string sum] 9)).appS (by rw [HSK.out]; exact hr) hk'
                  have END : Hid (∀ (w3 : World) (ad' : Option Addr) (cap' : Nat), RjQ w w2.heap.size [.int .i64 zn, .int .i64 sz, .string sum, .slice ad2 pn cap2] (P0 ++ ps) M0 (.slice ad' (np + pn) cap') (.slice az k cz) w3 → w3.cell? ⟨w2.heap.size, 2, none⟩ = some (.string sum) ∧ w.heap.size + 2 ≤ (w3.alloc (.cells #[.string sum] 9)).heap.size ∧ (w3.alloc (.cells #[.string sum] 9)).ownsRow (w.heap.size + 2) 9 1 (.slice az k cz) k (ss M0)) := fun w3 ad' cap' h => by
                    have h2 := h.t.al (.cells #[.string sum] 9)
                    refine ⟨h.cell (o := 2) rfl, h2.size, ?_⟩
                    have := h2.s
                    rw [HSK.out] at this
                    exact this
                  have HO9 : Hid (∀ u ∈ [Value.string sum], u.oneCell' = true) := fun u hu => by rw [List.mem_singleton.1 hu]; rfl
                  have HX9 : Hid ([Value.string sum].length = 1 * 1) := rfl
                  have HQ9 : Hid (k + 1 ≤ 4611686018427387904) := by have := HKL.out; show _ ≤ _; omega
                  have HQA : Hid ((k + 1) * 16 ≤ 140737488355328) := by have := HKL.out; show _ ≤ _; omega
                  clear HPN HT2 HSK HNP Q3 HPP PCS HKL T2
                  generalize pcsC ps = XS at *
                  generalize pcsC P0 = PA at *
                  generalize ss M0 = SA at *
                  have ALL : Hid (∀ ad' cap' w3, w3.ownsRow (w.heap.size + 2) 88 2 (.slice ad' (np + pn) cap') (np + pn) (PA ++ XS) → Keep (fun j => (Value.slice ap np cp).ownBlock = some j) (w2.alloc (.cells #[.int .i64 zn, .int .i64 sz, .string sum, .slice ad2 pn cap2] 35)) w3 → w3.cell? ⟨w2.heap.size, 2, none⟩ = some (.string sum) ∧ Hid (w.heap.size + 2 ≤ (w3.alloc (.cells #[.string sum] 9)).heap.size) ∧ Hid ((w3.alloc (.cells #[.string sum] 9)).ownsRow (w.heap.size + 2) 9 1 (.slice az k cz) k SA) ∧ Hid (GSrc (w3.alloc (.cells #[.string sum] 9)) (.slice (some ⟨w3.heap.size, 0, none⟩) 1 1) 1 [.string sum]) ∧ Hid (∀ ad4 cap4 w', w'.ownsRow (w.heap.size + 2) 9 1 (.slice ad4 (k + 1) cap4) (k + 1) (SA ++ [.string sum]) → Keep (fun j => (Value.slice az k cz).ownBlock = some j) (w3.alloc (.cells #[.string sum] 9)) w' → Hid (np + pn = (psT (PL.take (k + 1))).length ∧ RjS w (psT (PL.take (k + 1))) (sumT (PL.take (k + 1))) (.slice ad' (np + pn) cap') (.slice ad4 (k + 1) cap4) w'))) := fun ad' cap' w3 hr hk' => by
                    have G3 := FAP.out ad' cap' w3 hr hk'
                    obtain ⟨u2, hs9, hg9⟩ := END.out w3 ad' cap' G3.out
                    exact ⟨u2, hs9, hg9, gsrc_block (heap_alloc_new _ _), fun ad4 cap4 w' => ENS.out _ _ _ ad4 cap4 w' G3.out.t⟩
                  clear FAP END ENS
                  go_wp2_with (first | (at_builtin; refine wpl_gappL rfl _ _ elS9 rfl (w.heap.size + 2) (.slice az k cz) (.slice (some ⟨w3.heap.size, 0, none⟩) 1 1) SA [.string sum] k 1 (k + 1) rfl rfl rfl HG9.out HS9.out HGX.out HX9.out HO9.out HQ9.out HQA.out ?_; intro ad4 cap4 w6 hr6 hk6) | (at_builtin; refine wpl_gappR rfl _ _ elRP rfl (w.heap.size + 2) (.slice ap np cp) (.slice ad2 pn cap2) PA XS np pn (np + pn) rfl rfl rfl HGA.out HSZ.out HRP.out HX2.out HO1.out HQ1.out HQ2.out ?_; intro ad' cap' w3 hr3 hk3; obtain ⟨u2, HS9, HG9, HGX, HE9⟩ := ALL.out _ _ _ hr3 hk3; clear hr3 hk3))
                  have F6 := HE9.out _ _ _ hr6 hk6
                  clear hr6 hk6 HE9 HG9 HS9 HGX u2 ALL HGA HSZ HRP HX2 HO1 HQ1 HQ2 y1 y3 e0 e1 e2 e3
                  go_wp2
                  exact ⟨⟨k + 1, _, _, _, _, _, HLT.out, by first | rw [hw1] | rfl | simp, rfl, rfl, by first | rw [hwk] | rfl | simp, F6, fun i hi h1 h2 => by have h9 := HA3.out i hi h1 h2; omega⟩, by (try rw [hwk]); have := HLT.out; simp [intOf]; omega⟩
              · have g5 : decide (sz < 64) = false := decide_eq_false hsm
                have HA3 := hid (HA2.out (fun h => hsm h.1))
                clear HSB HA2 HE4 HV hsm HLP2
                have y1 := Q3.out.cell (o := 1) rfl
                have y3 := Q3.out.cell (o := 3) rfl
                have HRP := hid (PCS.out _ (Below.refl _ _))
                have HGA : Hid ((w2.alloc (.cells #[.int .i64 zn, .int .i64 sz, .string sum, .slice ad2 pn cap2] 35)).ownsRow (w.heap.size + 2) 88 2 (.slice ap np cp) np (pcsC P0)) := by have := Q3.out.t.p; rw [← HNP.out] at this; exact this
                have HSZ := hid Q3.out.t.size
                have FAP : Hid (∀ ad' cap' w', w'.ownsRow (w.heap.size + 2) 88 2 (.slice ad' (np + pn) cap') (np + pn) (pcsC P0 ++ pcsC ps) → Keep (fun j => (Value.slice ap np cp).ownBlock = some j) (w2.alloc (.cells #[.int .i64 zn, .int .i64 sz, .string sum, .slice ad2 pn cap2] 35)) w' → Hid (RjQ w w2.heap.size [.int .i64 zn, .int .i64 sz, .string sum, .slice ad2 pn cap2] (P0 ++ ps) M0 (.slice ad' (np + pn) cap') (.slice az k cz) w')) := fun ad' cap' w' hr hk' => Q3.out.app HPN.out.2 hr hk'
                have HO1 := hid (pcsC_cell ps)
                have HX2 : Hid ((pcsC ps).length = pn * 2) := by show _ = _; rw [pcsC_len, HPP.out]
                have HQ1 : Hid (np + pn ≤ 4611686018427387904) := by have := HPN.out.1; show _ ≤ _; omega
                have HQ2 : Hid ((np + pn) * 24 ≤ 140737488355328) := by have := HPN.out.1; show _ ≤ _; omega
                have ENS : Hid (∀ w3 ad' cap' ad4 cap4 w', RjS w (P0 ++ ps) M0 (.slice ad' (np + pn) cap') (.slice az k cz) w3 → w'.ownsRow (w.heap.size + 2) 9 1 (.slice ad4 (k + 1) cap4) (k + 1) (ss M0 ++ [.string sum]) → Keep (fun j => (Value.slice az k cz).ownBlock = some j) (w3.alloc (.cells #[.string sum] 9)) w' → Hid (np + pn = (psT (PL.take (k + 1))).length ∧ RjS w (psT (PL.take (k + 1))) (sumT (PL.take (k + 1))) (.slice ad' (np + pn) cap') (.slice ad4 (k + 1) cap4) w')) := fun w3 ad' cap' ad4 cap4 w' h hr hk' => by
                  refine ⟨?_, ?_⟩
                  · rw [HT2.out.1, ← HPN.out.2]
                  · rw [HT2.out.1, HT2.out.2]
                    exact (h.al (.cells #[.string sum] 9)).appS (by rw [HSK.out]; exact hr) hk'
                have END : Hid (∀ (w3 : World) (ad' : Option Addr) (cap' : Nat), RjQ w w2.heap.size [.int .i64 zn, .int .i64 sz, .string sum, .slice ad2 pn cap2] (P0 ++ ps) M0 (.slice ad' (np + pn) cap') (.slice az k cz) w3 → w3.cell? ⟨w2.heap.size, 2, none⟩ = some (.string sum) ∧ w.heap.size + 2 ≤ (w3.alloc (.cells #[.string sum] 9)).heap.size ∧ (w3.alloc (.cells #[.string sum] 9)).ownsRow (w.heap.size + 2) 9 1 (.slice az k cz) k (ss M0)) := fun w3 ad' cap' h => by
                  have h2 := h.t.al (.cells #[.string sum] 9)
                  refine ⟨h.cell (o := 2) rfl, h2.size, ?_⟩
                  have := h2.s
                  rw [HSK.out] at this
                  exact this
                have HO9 : Hid (∀ u ∈ [Value.string sum], u.oneCell' = true) := fun u hu => by rw [List.mem_singleton.1 hu]; rfl
                have HX9 : Hid ([Value.string sum].length = 1 * 1) := rfl
                have HQ9 : Hid (k + 1 ≤ 4611686018427387904) := by have := HKL.out; show _ ≤ _; omega
                have HQA : Hid ((k + 1) * 16 ≤ 140737488355328) := by have := HKL.out; show _ ≤ _; omega
                clear HPN HT2 HSK HNP Q3 HPP PCS HKL T2
                generalize pcsC ps = XS at *
                generalize pcsC P0 = PA at *
                generalize ss M0 = SA at *
                have ALL : Hid (∀ ad' cap' w3, w3.ownsRow (w.heap.size + 2) 88 2 (.slice ad' (np + pn) cap') (np + pn) (PA ++ XS) → Keep (fun j => (Value.slice ap np cp).ownBlock = some j) (w2.alloc (.cells #[.int .i64 zn, .int .i64 sz, .string sum, .slice ad2 pn cap2] 35)) w3 → w3.cell? ⟨w2.heap.size, 2, none⟩ = some (.string sum) ∧ Hid (w.heap.size + 2 ≤ (w3.alloc (.cells #[.string sum] 9)).heap.size) ∧ Hid ((w3.alloc (.cells #[.string sum] 9)).ownsRow (w.heap.size + 2) 9 1 (.slice az k cz) k SA) ∧ Hid (GSrc (w3.alloc (.cells #[.string sum] 9)) (.slice (some ⟨w3.heap.size, 0, none⟩) 1 1) 1 [.string sum]) ∧ Hid (∀ ad4 cap4 w', w'.ownsRow (w.heap.size + 2) 9 1 (.slice ad4 (k + 1) cap4) (k + 1) (SA ++ [.string sum]) → Keep (fun j => (Value.slice az k cz).ownBlock = some j) (w3.alloc (.cells #[.string sum] 9)) w' → Hid (np + pn = (psT (PL.take (k + 1))).length ∧ RjS w (psT (PL.take (k + 1))) (sumT (PL.take (k + 1))) (.slice ad' (np + pn) cap') (.slice ad4 (k + 1) cap4) w'))) := fun ad' cap' w3 hr hk' => by
                  have G3 := FAP.out ad' cap' w3 hr hk'
                  obtain ⟨u2, hs9, hg9⟩ := END.out w3 ad' cap' G3.out
                  exact ⟨u2, hs9, hg9, gsrc_block (heap_alloc_new _ _), fun ad4 cap4 w' => ENS.out _ _ _ ad4 cap4 w' G3.out.t⟩
                clear FAP END ENS
                go_wp2_with (first | (at_builtin; refine wpl_gappL rfl _ _ elS9 rfl (w.heap.size + 2) (.slice az k cz) (.slice (some ⟨w3.heap.size, 0, none⟩) 1 1) SA [.string sum] k 1 (k + 1) rfl rfl rfl HG9.out HS9.out HGX.out HX9.out HO9.out HQ9.out HQA.out ?_; intro ad4 cap4 w6 hr6 hk6) | (at_builtin; refine wpl_gappR rfl _ _ elRP rfl (w.heap.size + 2) (.slice ap np cp) (.slice ad2 pn cap2) PA XS np pn (np + pn) rfl rfl rfl HGA.out HSZ.out HRP.out HX2.out HO1.out HQ1.out HQ2.out ?_; intro ad' cap' w3 hr3 hk3; obtain ⟨u2, HS9, HG9, HGX, HE9⟩ := ALL.out _ _ _ hr3 hk3; clear hr3 hk3))
                have F6 := HE9.out _ _ _ hr6 hk6
                clear hr6 hk6 HE9 HG9 HS9 HGX u2 ALL HGA HSZ HRP HX2 HO1 HQ1 HQ2 y1 y3 e0 e1 e2 e3
                go_wp2
                exact ⟨⟨k + 1, _, _, _, _, _, HLT.out, by first | rw [hw1] | rfl | simp, rfl, rfl, by first | rw [hwk] | rfl | simp, F6, fun i hi h1 h2 => by have h9 := HA3.out i hi h1 h2; omega⟩, by (try rw [hwk]); have := HLT.out; simp [intOf]; omega⟩
            · have hke : k = ks.length := by omega
              have hd : decide ((k : Int) < (ks.length : Int)) = false := decide_eq_false (by omega)
              have hd2 : decide (k < ks.length) = false := decide_eq_false hlt
              have hsb := HSMO.out (fun i hi h => by have h9 := HA.out i hi (by have := HLP.out; omega) h; omega)
              subst hsb
              have HE5 : Hid (JE = if LB = true then 2 else 0) := HE4.out
              have hkp : k = PL.length := by have := HLP.out; omega
              have HKP : Hid (PL.take k = PL) := by show _ = _; rw [hkp, HZL.out]
              rw [HKP.out] at HNP TR ⊢
              have HLO2 : Hid (LB = (decide (1048576 < szT PL) || decide (512 < np))) := by show _ = _; rw [HLO.out, HNP.out]
              have HSTR : Hid (∀ W, RjS w (psT PL) (sumT PL) (.slice ap np cp) (.slice az k cz) W → Strs W (.slice az k cz) (sumT PL)) := fun W h => strs_own9 h.s
              have TG1 : Hid (∀ W, Strs W (.slice az k cz) (sumT PL) → Calls Try.prog 49 #[.int .u8 77, .slice az k cz] W fun e w' => e = .returned (.string ⟨(sha (tld 77 (sumT PL))).toArray⟩) ∧ Below W.heap.size W w') := fun W h => rtagged_any 77 _ _ W h (by have := HRM.out; omega)
              have HX1 : Hid (∀ (W : World), Calls Try.prog 48 #[.string ⟨(sha (tld 77 (sumT PL))).toArray⟩] W fun e w' => e = .returned (.string (dgT (sumT PL))) ∧ Below W.heap.size W w') := fun W => by
                have := rhex_any ⟨(sha (tld 77 (sumT PL))).toArray⟩ W (by show (sha _).toArray.size ≤ _; rw [List.size_toArray, sha_len]; omega)
                exact this
              clear HC HCU HLK AT HTK HBD HSL HSMB HSMO HZL HLO HRM HAT HALL HA HOK HE4 hke hkp hlt hk HKP HLP H100 HN1 HQS HQP
              generalize szT PL = SZ at *
              by_cases h1 : 1048576 < SZ
              · have g5 : decide (1048576 < SZ) = true := decide_eq_true h1
                have hlb : LB = true := by rw [HLO2.out, g5]; rfl
                subst hlb
                have he : JE = 2 := HE5.out
                subst he
                have hv' : JV = vnz := by rw [HV.out]; simp
                subst hv'
                have T3 := hid TR.out
                clear TR HE5 HLO2 HSTR TG1 HX1 HV HNP h1
                obtain ⟨⟨n0, n1, n2, n3, n4⟩, ⟨m0, m1, m2, m3, m4⟩, f0, f1, f2, f3, f4⟩ := T3.out.cells
                have BZ := hid T3.out.fin0
                go_wp2
                exact bodyPost_ret (v := .tuple #[.agg #[.int .i64 0, .bool false, .int .i64 0, .string ⟨#[]⟩, .slice none 0 0], .int .i64 2]) (ret_vt4 (p := 4) (u := 5) rfl _ _ w.heap.size _ _ rfl rfl (run_loadVar_row _ _ _ _ _ _ _ BZ.out.row Try.underlying51 rfl (by kernel_rfl))) rfl (NIL.out _ _ BZ.out)
              · have g5 : decide (1048576 < SZ) = false := decide_eq_false h1
                by_cases h2 : 512 < np
                · have g6 : decide ((512 : Int) < (np : Int)) = true := decide_eq_true (by omega)
                  have g7 : decide (512 < np) = true := decide_eq_true h2
                  have hlb : LB = true := by rw [HLO2.out, g7]; simp
                  subst hlb
                  have he : JE = 2 := HE5.out
                  subst he
                  have hv' : JV = vnz := by rw [HV.out]; simp
                  subst hv'
                  have T3 := hid TR.out
                  clear TR HE5 HLO2 HSTR TG1 HX1 HV HNP h1 h2
                  obtain ⟨⟨n0, n1, n2, n3, n4⟩, ⟨m0, m1, m2, m3, m4⟩, f0, f1, f2, f3, f4⟩ := T3.out.cells
                  have BZ := hid T3.out.fin0
                  go_wp2
                  exact bodyPost_ret (v := .tuple #[.agg #[.int .i64 0, .bool false, .int .i64 0, .string ⟨#[]⟩, .slice none 0 0], .int .i64 2]) (ret_vt4 (p := 4) (u := 5) rfl _ _ w.heap.size _ _ rfl rfl (run_loadVar_row _ _ _ _ _ _ _ BZ.out.row Try.underlying51 rfl (by kernel_rfl))) rfl (NIL.out _ _ BZ.out)
                · have g6 : decide ((512 : Int) < (np : Int)) = false := decide_eq_false (by omega)
                  have g7 : decide (512 < np) = false := decide_eq_false h2
                  have hlb : LB = false := by rw [HLO2.out, g7, g5]; rfl
                  subst hlb
                  have he : JE = 0 := HE5.out
                  subst he
                  have TG2 := hid (TG1.out _ (HSTR.out _ TR.out))
                  clear HE5 HLO2 HSTR TG1 h1 h2
                  go_wp2_with fail
                  refine TG2.out.mono ?_
                  rintro e w5 ⟨rfl, b5⟩
                  have T5 := hid (TR.out.next b5)
                  clear TG2 b5 TR
                  go_wp2_with fail
                  refine (HX1.out _).mono ?_
                  rintro e w6 ⟨rfl, b6⟩
                  have T6 := hid (T5.out.next b6)
                  clear HX1 b6 T5
                  have HV3 : Hid (JV = ⟨0, false, SZ, dgT (sumT PL), psT PL⟩) := HV.out
                  generalize dgT (sumT PL) = DG at *
                  obtain ⟨-, ⟨m0, m1, m2, m3, m4⟩, f0, f1, f2, f3, f4⟩ := T6.out.cells
                  have F5 := T6.out.fin (.int .i64 0) (.bool false) (.int .i64 SZ) (.string DG) (.slice ap np cp)
                  have BZ := hid F5.1
                  have OWN := hid (RowC.own (F5.2.ownsRow T6.out.p (fun g hg e => by have := ownsRow_ge T6.out.p hg; omega)))
                  clear F5 T6 HV NIL
                  go_wp2
                  refine bodyPost_ret (v := .tuple #[.agg #[.int .i64 0, .bool false, .int .i64 SZ, .string DG, .slice ap np cp], .int .i64 0]) (ret_vt4 (p := 4) (u := 5) rfl _ _ w.heap.size _ _ rfl rfl (run_loadVar_row _ _ _ _ _ _ _ BZ.out.row Try.underlying51 rfl (by kernel_rfl))) rfl ?_
                  have hv' := HV3.out
                  subst hv'
                  have hnp := HNP.out
                  subst hnp
                  exact ⟨ap, cp, rfl, OWN.out, BZ.out.b⟩
end Go.Proofs.Ytbiapepalkdkdab
