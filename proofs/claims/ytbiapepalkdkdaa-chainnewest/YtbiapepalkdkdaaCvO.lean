/- Versions held against each other. -/
import Derived.Test.YtbiapepalkdkdaaCvN
import Derived.Laws.StructEq
namespace Go.Proofs.Ytbiapepalkdkdaa
open Go.RowKit Go.Maps
set_option linter.unusedVariables false
set_option linter.unusedSimpArgs false

theorem guardPc : Try.prog.eqGuardType Try.prog.depth 74 = false := by kernel_rfl
theorem eqlPc (X : ByteArray) (a : Int) (W : World) : (binOp .eql 74 (.agg #[.string X, .int .i64 a]) (.agg #[.string X, .int .i64 a])).run Try.prog W = .ok (.bool true) W := by
  have u9 := Try.underlying9
  have u4 := Try.underlying3
  have z9 := Try.sizeOf9
  have z4 := Try.sizeOf3
  have a9 := Try.isAgg9
  have a4 := Try.isAgg3
  have hS : Try.prog.underlying 74 = some (.struct (Try.prog.fieldsOf 74)) := by kernel_rfl
  have hp : Try.prog.stoodInHeld 74 = false := by kernel_rfl
  rw [run_eql_struct, show (10000 : Nat) = 9999 + 1 from rfl, run_equalIn_agg W 9999 74 _ _ hS hp]
  simp only [Program.fieldsOf, Try.underlying74]
  go_simp
theorem neqPc (X : ByteArray) (a : Int) (W : World) : (binOp .neq 74 (.agg #[.string X, .int .i64 a]) (.agg #[.string X, .int .i64 a])).run Try.prog W = .ok (.bool false) W := by
  have h := eqlPc X a W
  rw [run_eql_struct] at h
  rw [run_neq_struct]
  generalize (Op.equalIn 10000 74 (.agg #[.string X, .int .i64 a]) (.agg #[.string X, .int .i64 a])).run Try.prog W = R at *
  cases R with
  | ok r W1 =>
    simp only [Result.andThen_ok] at h ⊢
    injection h with h1 h2
    injection h1 with h1
    rw [h1, h2]
    rfl
  | _ => cases h
theorem Tb.drewN {w W : World} {cs zs : List Value} {t1 t2 : TypeId} (h : Tb w cs zs t1 t2 W) (n : Nat) : Tb w cs zs t1 t2 (W.drewN n) := ⟨h.row, h.res, below_drewN h.b n⟩
set_option maxRecDepth 100000 in
set_option maxHeartbeats 2000000 in
theorem rsame_true (p1 p2 : Value) (x : Vn) (w : World) (h1 : PcI w p1 x.ps) (h2 : PcI w p2 x.ps) (hl : x.ps.length ≤ 8796093022208) : Calls Try.prog 26 #[vnV (p1, x), vnV (p2, x)] w fun e w' => e = .returned (.bool true) ∧ Below w.heap.size w w' := by
  obtain ⟨a1, c1, rfl, g1⟩ := h1.form
  obtain ⟨a2, c2, rfl, g2⟩ := h2.form
  have HC : Hid (∀ (k : Nat) (hk : k < x.ps.length) (W : World), Below w.heap.size w W → ∃ b1 o1 b2 o2 X F, a1 = some ⟨b1, o1, none⟩ ∧ a2 = some ⟨b2, o2, none⟩ ∧ W.cell? ⟨b1, o1 + k * 2, none⟩ = some (.string X) ∧ W.cell? ⟨b1, o1 + k * 2 + 1, none⟩ = some (.int .i64 F) ∧ W.cell? ⟨b2, o2 + k * 2, none⟩ = some (.string X) ∧ W.cell? ⟨b2, o2 + k * 2 + 1, none⟩ = some (.int .i64 F)) := fun k hk W hW => by
    obtain ⟨b1, o1, e1, hb1, p1, p2⟩ := g1 k hk
    obtain ⟨b2, o2, e2, hb2, q1, q2⟩ := g2 k hk
    exact ⟨b1, o1, b2, o2, _, _, e1, e2, (hW.cell (p := ⟨b1, o1 + k * 2, none⟩) hb1).trans p1, (hW.cell (p := ⟨b1, o1 + k * 2 + 1, none⟩) hb1).trans p2, (hW.cell (p := ⟨b2, o2 + k * 2, none⟩) hb2).trans q1, (hW.cell (p := ⟨b2, o2 + k * 2 + 1, none⟩) hb2).trans q2⟩
  have TM := hid (Tb.made w [.int .i64 x.id, .bool x.ma, .int .i64 x.sz, .string x.sum, .slice a1 x.ps.length c1] [.int .i64 x.id, .bool x.ma, .int .i64 x.sz, .string x.sum, .slice a2 x.ps.length c2] 36 36)
  clear h1 h2 g1 g2
  unfold vnV
  obtain ⟨id, ma, sz, sum, ps⟩ := x
  simp only at *
  generalize ps.length = n at *
  obtain ⟨y0, y1, y2, y3, y4⟩ := TM.out.five
  obtain ⟨⟨z0, z1, z2, z3, z4⟩, -⟩ := TM.out.may
  have e1 : (id != id) = false := by simp
  have e2 : (ma != ma) = false := by simp
  have e3 : (sz != sz) = false := by simp
  have e4 : (sum.toList != sum.toList) = false := by simp
  have e5 : ((n : Int) != (n : Int)) = false := by simp
  have hg := guardPc
  go_enter Try.func26, Try.ntmps26
  go_wp2
  clear y0 y1 y2 y3 y4 z0 z1 z2 z3 z4 e1 e2 e3 e4 e5
  go_loopw [5] (fun i wr => ∃ k : Nat, k ≤ n ∧ i = .int .i64 k ∧ Hid (Tb w [.int .i64 id, .bool ma, .int .i64 sz, .string sum, .slice a1 n c1] [.int .i64 id, .bool ma, .int .i64 sz, .string sum, .slice a2 n c2] 36 36 wr)) (fun i _ => n - (intOf i).toNat)
  case atStart => exact ⟨0, by omega, rfl, TM⟩
  case round =>
    clear TM
    obtain ⟨k, hk, rfl, HT⟩ := hrel
    have y4 := HT.out.row.cellAt (o := 4) rfl
    by_cases hlt : k < n
    · have hk0 : (0 : Int) ≤ (k : Int) := by omega
      have hk1 : (k : Int) < (n : Int) := by omega
      have z4 := HT.out.res.cellAt (o := 4) rfl
      obtain ⟨b1, o1, b2, o2, X, F, e1, e2, p1, p2, q1, q2⟩ := HC.out k hlt wr HT.out.b
      subst e1 e2
      have hq := fun W => neqPc X F W
      clear HC
      go_wp2
      go_quiet (fail)
      have HT2 := hid (HT.out.drewN nq)
      clear HT y4 z4 p1 p2 q1 q2
      go_wp2
      exact ⟨⟨k + 1, by omega, by go_num, HT2⟩, by simp [intOf]; omega⟩
    · have hd : decide ((k : Int) < (n : Int)) = false := decide_eq_false (by omega)
      have hd2 : decide (k < n) = false := decide_eq_false hlt
      clear HC
      go_wp2
      go_ret
      exact ⟨rfl, HT.out.b⟩
set_option maxRecDepth 100000 in
set_option maxHeartbeats 2000000 in
theorem ralike_true (v1 v2 : Value) (q1 q2 : List (Value × Vn)) (w : World) (h1 : VnI w v1 q1) (h2 : VnI w v2 q2) (he : vqL q1 = vqL q2) (hl : q1.length ≤ 8796093022208) (hs : ∀ y ∈ q1, y.2.ps.length ≤ 8796093022208) : Calls Try.prog 21 #[v1, v2] w fun e w' => e = .returned (.bool true) ∧ Below w.heap.size w w' := by
  obtain ⟨a1, c1, rfl, g1⟩ := h1.form
  obtain ⟨a2, c2, rfl, g2⟩ := h2.form
  have hn : q2.length = q1.length := by rw [← vqL_len, ← vqL_len, he]
  have HC : Hid (∀ (k : Nat) (hk : k < q1.length), ∃ b1 o1 b2 o2 ad1 cap1 ad2 cap2, ∃ x : Vn, a1 = some ⟨b1, o1, none⟩ ∧ a2 = some ⟨b2, o2, none⟩ ∧ (∀ W, Below w.heap.size w W → ((W.cell? ⟨b1, o1 + k * 5, none⟩ = some (.int .i64 x.id) ∧ W.cell? ⟨b1, o1 + k * 5 + 1, none⟩ = some (.bool x.ma) ∧ W.cell? ⟨b1, o1 + k * 5 + 2, none⟩ = some (.int .i64 x.sz) ∧ W.cell? ⟨b1, o1 + k * 5 + 3, none⟩ = some (.string x.sum) ∧ W.cell? ⟨b1, o1 + k * 5 + 4, none⟩ = some (.slice ad1 x.ps.length cap1)) ∧ (W.cell? ⟨b2, o2 + k * 5, none⟩ = some (.int .i64 x.id) ∧ W.cell? ⟨b2, o2 + k * 5 + 1, none⟩ = some (.bool x.ma) ∧ W.cell? ⟨b2, o2 + k * 5 + 2, none⟩ = some (.int .i64 x.sz) ∧ W.cell? ⟨b2, o2 + k * 5 + 3, none⟩ = some (.string x.sum) ∧ W.cell? ⟨b2, o2 + k * 5 + 4, none⟩ = some (.slice ad2 x.ps.length cap2)))) ∧ ∀ W, Below w.heap.size w W → Calls Try.prog 26 #[.agg #[.int .i64 x.id, .bool x.ma, .int .i64 x.sz, .string x.sum, .slice ad1 x.ps.length cap1], .agg #[.int .i64 x.id, .bool x.ma, .int .i64 x.sz, .string x.sum, .slice ad2 x.ps.length cap2]] W fun e w' => e = .returned (.bool true) ∧ Below W.heap.size W w') := fun k hk => by
    obtain ⟨b1, o1, e1, hb1, p0, p1, p2, p3, p4, hp⟩ := g1 k hk
    obtain ⟨b2, o2, e2, hb2, r0, r1, r2, r3, r4, hr⟩ := g2 k (by omega)
    have ex : q2[k].2 = q1[k].2 := by rw [← vqL_get q2 k (by omega), ← vqL_get q1 k hk]; simp only [he]
    have hsz := hs _ (List.getElem_mem hk)
    rw [ex] at r0 r1 r2 r3 hr
    clear ex hs g1 g2 h1 h2
    generalize q1[k].2 = x at *
    generalize q1[k].1 = v1 at *
    generalize q2[k].1 = v2 at *
    obtain ⟨ad1, cap1, rfl⟩ := hp.sl
    obtain ⟨ad2, cap2, rfl⟩ := hr.sl
    have SA : ∀ W, Below w.heap.size w W → Calls Try.prog 26 #[vnV (.slice ad1 x.ps.length cap1, x), vnV (.slice ad2 x.ps.length cap2, x)] W fun e w' => e = .returned (.bool true) ∧ Below W.heap.size W w' := fun W hW => rsame_true _ _ x W (hp.next hW) (hr.next hW) hsz
    exact ⟨b1, o1, b2, o2, ad1, cap1, ad2, cap2, x, e1, e2, fun W hW => ⟨⟨(hW.cell (p := ⟨b1, o1 + k * 5, none⟩) hb1).trans p0, (hW.cell (p := ⟨b1, o1 + k * 5 + 1, none⟩) hb1).trans p1, (hW.cell (p := ⟨b1, o1 + k * 5 + 2, none⟩) hb1).trans p2, (hW.cell (p := ⟨b1, o1 + k * 5 + 3, none⟩) hb1).trans p3, (hW.cell (p := ⟨b1, o1 + k * 5 + 4, none⟩) hb1).trans p4⟩, ⟨(hW.cell (p := ⟨b2, o2 + k * 5, none⟩) hb2).trans r0, (hW.cell (p := ⟨b2, o2 + k * 5 + 1, none⟩) hb2).trans r1, (hW.cell (p := ⟨b2, o2 + k * 5 + 2, none⟩) hb2).trans r2, (hW.cell (p := ⟨b2, o2 + k * 5 + 3, none⟩) hb2).trans r3, (hW.cell (p := ⟨b2, o2 + k * 5 + 4, none⟩) hb2).trans r4⟩⟩, SA⟩
  rw [hn]
  clear h1 h2 g1 g2 he hs hn
  generalize q1.length = n at *
  have e5 : ((n : Int) != (n : Int)) = false := by simp
  go_enter Try.func21, Try.ntmps21
  go_wp2
  clear e5
  go_loopw [5] (fun i wr => ∃ k : Nat, k ≤ n ∧ i = .int .i64 k ∧ Hid (Below w.heap.size w wr)) (fun i _ => n - (intOf i).toNat)
  case atStart => exact ⟨0, by omega, rfl, Below.refl _ _⟩
  case round =>
    obtain ⟨k, hk, rfl, HB⟩ := hrel
    by_cases hlt : k < n
    · have hk0 : (0 : Int) ≤ (k : Int) := by omega
      have hk1 : (k : Int) < (n : Int) := by omega
      obtain ⟨b1, o1, b2, o2, ad1, cap1, ad2, cap2, x, e1, e2, yy, sm⟩ := HC.out k hlt
      subst e1 e2
      have BD : Hid (Below w.heap.size w wr.drew) := HB.out.drew
      have YD := hid (yy _ BD.out)
      have SM : Hid (∀ W, Below w.heap.size w W → Calls Try.prog 26 #[.agg #[.int .i64 x.id, .bool x.ma, .int .i64 x.sz, .string x.sum, .slice ad1 x.ps.length cap1], .agg #[.int .i64 x.id, .bool x.ma, .int .i64 x.sz, .string x.sum, .slice ad2 x.ps.length cap2]] W fun e w' => e = .returned (.bool true) ∧ ((w'.cell? ⟨b1, o1 + k * 5, none⟩ = some (.int .i64 x.id) ∧ w'.cell? ⟨b1, o1 + k * 5 + 1, none⟩ = some (.bool x.ma) ∧ w'.cell? ⟨b1, o1 + k * 5 + 2, none⟩ = some (.int .i64 x.sz) ∧ w'.cell? ⟨b1, o1 + k * 5 + 3, none⟩ = some (.string x.sum) ∧ w'.cell? ⟨b1, o1 + k * 5 + 4, none⟩ = some (.slice ad1 x.ps.length cap1)) ∧ (w'.cell? ⟨b2, o2 + k * 5, none⟩ = some (.int .i64 x.id) ∧ w'.cell? ⟨b2, o2 + k * 5 + 1, none⟩ = some (.bool x.ma) ∧ w'.cell? ⟨b2, o2 + k * 5 + 2, none⟩ = some (.int .i64 x.sz) ∧ w'.cell? ⟨b2, o2 + k * 5 + 3, none⟩ = some (.string x.sum) ∧ w'.cell? ⟨b2, o2 + k * 5 + 4, none⟩ = some (.slice ad2 x.ps.length cap2))) ∧ Hid (Below w.heap.size w w')) := fun W hW => (sm W hW).mono fun e w' ⟨he, hb⟩ => ⟨he, yy _ (below_on hW hb), below_on hW hb⟩
      clear HC yy sm HB
      obtain ⟨id, ma, sz, sum, ps⟩ := x
      simp only at *
      generalize ps.length = pn at *
      go_wp2
      go_region_held3 (fun w' => (w'.cell? ⟨b1, o1 + k * 5, none⟩ = some (.int .i64 id) ∧ w'.cell? ⟨b1, o1 + k * 5 + 1, none⟩ = some (.bool ma) ∧ w'.cell? ⟨b1, o1 + k * 5 + 2, none⟩ = some (.int .i64 sz) ∧ w'.cell? ⟨b1, o1 + k * 5 + 3, none⟩ = some (.string sum) ∧ w'.cell? ⟨b1, o1 + k * 5 + 4, none⟩ = some (.slice ad1 pn cap1)) ∧ (w'.cell? ⟨b2, o2 + k * 5, none⟩ = some (.int .i64 id) ∧ w'.cell? ⟨b2, o2 + k * 5 + 1, none⟩ = some (.bool ma) ∧ w'.cell? ⟨b2, o2 + k * 5 + 2, none⟩ = some (.int .i64 sz) ∧ w'.cell? ⟨b2, o2 + k * 5 + 3, none⟩ = some (.string sum) ∧ w'.cell? ⟨b2, o2 + k * 5 + 4, none⟩ = some (.slice ad2 pn cap2))) (first | with_reducible exact YD.out | with_reducible assumption) (first | (go_at_call 26; with_reducible (refine (SM.out _ BD.out).mono ?_); rintro e w5 ⟨rfl, ZC, B5⟩))
      clear ZC SM YD BD
      go_wp2
      exact ⟨⟨k + 1, by omega, by go_num, B5⟩, by simp [intOf]; omega⟩
    · have hd : decide ((k : Int) < (n : Int)) = false := decide_eq_false (by omega)
      have hd2 : decide (k < n) = false := decide_eq_false hlt
      clear HC
      go_wp2
      go_ret
      exact ⟨rfl, HB.out⟩
end Go.Proofs.Ytbiapepalkdkdaa
