/- Joined: Versions held against each other. A version is put ahead of a chain, by the document. -/
import Derived.Test.YtbiapepalkdkdaaJoined08
import Derived.Laws.StructEq
namespace Go.Proofs.Ytbiapepalkdkdaa
open Go.RowKit Go.Maps
set_option linter.unusedVariables false
set_option linter.unusedSimpArgs false

theorem guardPc : Try.prog.eqGuardType Try.prog.depth 74 = false := by kernel_rfl
theorem eqlPc (X : ByteArray) (a : Int) (W : World) : (binOp .eql 74 (.agg #[.string X, .int .i64 a]) (.agg #[.string X, .int .i64 a])).run Try.prog W = .ok (.bool true) W := by
  have u9 := Try.underlying9
  have u4 := Try.underlying3
  have z9 := Try.sizeOf9
  have z4 := Try.sizeOf3
  have a9 := Try.isAgg9
  have a4 := Try.isAgg3
  have hS : Try.prog.underlying 74 = some (.struct (Try.prog.fieldsOf 74)) := by kernel_rfl
  have hp : Try.prog.stoodInHeld 74 = false := by kernel_rfl
  rw [run_eql_struct, show (10000 : Nat) = 9999 + 1 from rfl, run_equalIn_agg W 9999 74 _ _ hS hp]
  simp only [Program.fieldsOf, Try.underlying74]
  go_simp
theorem neqPc (X : ByteArray) (a : Int) (W : World) : (binOp .neq 74 (.agg #[.string X, .int .i64 a]) (.agg #[.string X, .int .i64 a])).run Try.prog W = .ok (.bool false) W := by
  have h := eqlPc X a W
  rw [run_eql_struct] at h
  rw [run_neq_struct]
  generalize (Op.equalIn 10000 74 (.agg #[.string X, .int .i64 a]) (.agg #[.string X, .int .i64 a])).run Try.prog W = R at *
  cases R with
  | ok r W1 =>
    simp only [Result.andThen_ok] at h ⊢
    injection h with h1 h2
    injection h1 with h1
    rw [h1, h2]
    rfl
  | _ => cases h
theorem Tb.drewN {w W : World} {cs zs : List Value} {t1 t2 : TypeId} (h : Tb w cs zs t1 t2 W) (n : Nat) : Tb w cs zs t1 t2 (W.drewN n) := ⟨h.row, h.res, below_drewN h.b n⟩
set_option maxRecDepth 100000 in
set_option maxHeartbeats 2000000 in
theorem rsame_true (p1 p2 : Value) (x : Vn) (w : World) (h1 : PcI w p1 x.ps) (h2 : PcI w p2 x.ps) (hl : x.ps.length ≤ 8796093022208) : Calls Try.prog 26 #[vnV (p1, x), vnV (p2, x)] w fun e w' => e = .returned (.bool true) ∧ Below w.heap.size w w' := by
  obtain ⟨a1, c1, rfl, g1⟩ := h1.form
  obtain ⟨a2, c2, rfl, g2⟩ := h2.form
  have HC : Hid (∀ (k : Nat) (hk : k < x.ps.length) (W : World), Below w.heap.size w W → ∃ b1 o1 b2 o2 X F, a1 = some ⟨b1, o1, none⟩ ∧ a2 = some ⟨b2, o2, none⟩ ∧ W.cell? ⟨b1, o1 + k * 2, none⟩ = some (.string X) ∧ W.cell? ⟨b1, o1 + k * 2 + 1, none⟩ = some (.int .i64 F) ∧ W.cell? ⟨b2, o2 + k * 2, none⟩ = some (.string X) ∧ W.cell? ⟨b2, o2 + k * 2 + 1, none⟩ = some (.int .i64 F)) := fun k hk W hW => by
    obtain ⟨b1, o1, e1, hb1, p1, p2⟩ := g1 k hk
    obtain ⟨b2, o2, e2, hb2, q1, q2⟩ := g2 k hk
    exact ⟨b1, o1, b2, o2, _, _, e1, e2, (hW.cell (p := ⟨b1, o1 + k * 2, none⟩) hb1).trans p1, (hW.cell (p := ⟨b1, o1 + k * 2 + 1, none⟩) hb1).trans p2, (hW.cell (p := ⟨b2, o2 + k * 2, none⟩) hb2).trans q1, (hW.cell (p := ⟨b2, o2 + k * 2 + 1, none⟩) hb2).trans q2⟩
  have TM := hid (Tb.made w [.int .i64 x.id, .bool x.ma, .int .i64 x.sz, .string x.sum, .slice a1 x.ps.length c1] [.int .i64 x.id, .bool x.ma, .int .i64 x.sz, .string x.sum, .slice a2 x.ps.length c2] 36 36)
  clear h1 h2 g1 g2
  unfold vnV
  obtain ⟨id, ma, sz, sum, ps⟩ := x
  simp only at *
  generalize ps.length = n at *
  obtain ⟨y0, y1, y2, y3, y4⟩ := TM.out.five
  obtain ⟨⟨z0, z1, z2, z3, z4⟩, -⟩ := TM.out.may
  have e1 : (id != id) = false := by simp
  have e2 : (ma != ma) = false := by simp
  have e3 : (sz != sz) = false := by simp
  have e4 : (sum.toList != sum.toList) = false := by simp
  have e5 : ((n : Int) != (n : Int)) = false := by simp
  have hg := guardPc
  go_enter Try.func26, Try.ntmps26
  go_wp2
  clear y0 y1 y2 y3 y4 z0 z1 z2 z3 z4 e1 e2 e3 e4 e5
  go_loopw [5] (fun i wr => ∃ k : Nat, k ≤ n ∧ i = .int .i64 k ∧ Hid (Tb w [.int .i64 id, .bool ma, .int .i64 sz, .string sum, .slice a1 n c1] [.int .i64 id, .bool ma, .int .i64 sz, .string sum, .slice a2 n c2] 36 36 wr)) (fun i _ => n - (intOf i).toNat)
  case atStart => exact ⟨0, by omega, rfl, TM⟩
  case round =>
    clear TM
    obtain ⟨k, hk, rfl, HT⟩ := hrel
    have y4 := HT.out.row.cellAt (o := 4) rfl
    by_cases hlt : k < n
    · have hk0 : (0 : Int) ≤ (k : Int) := by omega
      have hk1 : (k : Int) < (n : Int) := by omega
      have z4 := HT.out.res.cellAt (o := 4) rfl
      obtain ⟨b1, o1, b2, o2, X, F, e1, e2, p1, p2, q1, q2⟩ := HC.out k hlt wr HT.out.b
      subst e1 e2
      have hq := fun W => neqPc X F W
      clear HC
      go_wp2
      go_quiet (fail)
      have HT2 := hid (HT.out.drewN nq)
      clear HT y4 z4 p1 p2 q1 q2
      go_wp2
      exact ⟨⟨k + 1, by omega, by go_num, HT2⟩, by simp [intOf]; omega⟩
    · have hd : decide ((k : Int) < (n : Int)) = false := decide_eq_false (by omega)
      have hd2 : decide (k < n) = false := decide_eq_false hlt
      clear HC
      go_wp2
      go_ret
      exact ⟨rfl, HT.out.b⟩
set_option maxRecDepth 100000 in
set_option maxHeartbeats 2000000 in
theorem ralike_true (v1 v2 : Value) (q1 q2 : List (Value × Vn)) (w : World) (h1 : VnI w v1 q1) (h2 : VnI w v2 q2) (he : vqL q1 = vqL q2) (hl : q1.length ≤ 8796093022208) (hs : ∀ y ∈ q1, y.2.ps.length ≤ 8796093022208) : Calls Try.prog 21 #[v1, v2] w fun e w' => e = .returned (.bool true) ∧ Below w.heap.size w w' := by
  obtain ⟨a1, c1, rfl, g1⟩ := h1.form
  obtain ⟨a2, c2, rfl, g2⟩ := h2.form
  have hn : q2.length = q1.length := by rw [← vqL_len, ← vqL_len, he]
  have HC : Hid (∀ (k : Nat) (hk : k < q1.length), ∃ b1 o1 b2 o2 ad1 cap1 ad2 cap2, ∃ x : Vn, a1 = some ⟨b1, o1, none⟩ ∧ a2 = some ⟨b2, o2, none⟩ ∧ (∀ W, Below w.heap.size w W → ((W.cell? ⟨b1, o1 + k * 5, none⟩ = some (.int .i64 x.id) ∧ W.cell? ⟨b1, o1 + k * 5 + 1, none⟩ = some (.bool x.ma) ∧ W.cell? ⟨b1, o1 + k * 5 + 2, none⟩ = some (.int .i64 x.sz) ∧ W.cell? ⟨b1, o1 + k * 5 + 3, none⟩ = some (.string x.sum) ∧ W.cell? ⟨b1, o1 + k * 5 + 4, none⟩ = some (.slice ad1 x.ps.length cap1)) ∧ (W.cell? ⟨b2, o2 + k * 5, none⟩ = some (.int .i64 x.id) ∧ W.cell? ⟨b2, o2 + k * 5 + 1, none⟩ = some (.bool x.ma) ∧ W.cell? ⟨b2, o2 + k * 5 + 2, none⟩ = some (.int .i64 x.sz) ∧ W.cell? ⟨b2, o2 + k * 5 + 3, none⟩ = some (.string x.sum) ∧ W.cell? ⟨b2, o2 + k * 5 + 4, none⟩ = some (.slice ad2 x.ps.length cap2)))) ∧ ∀ W, Below w.heap.size w W → Calls Try.prog 26 #[.agg #[.int .i64 x.id, .bool x.ma, .int .i64 x.sz, .string x.sum, .slice ad1 x.ps.length cap1], .agg #[.int .i64 x.id, .bool x.ma, .int .i64 x.sz, .string x.sum, .slice ad2 x.ps.length cap2]] W fun e w' => e = .returned (.bool true) ∧ Below W.heap.size W w') := fun k hk => by
    obtain ⟨b1, o1, e1, hb1, p0, p1, p2, p3, p4, hp⟩ := g1 k hk
    obtain ⟨b2, o2, e2, hb2, r0, r1, r2, r3, r4, hr⟩ := g2 k (by omega)
    have ex : q2[k].2 = q1[k].2 := by rw [← vqL_get q2 k (by omega), ← vqL_get q1 k hk]; simp only [he]
    have hsz := hs _ (List.getElem_mem hk)
    rw [ex] at r0 r1 r2 r3 hr
    clear ex hs g1 g2 h1 h2
    generalize q1[k].2 = x at *
    generalize q1[k].1 = v1 at *
    generalize q2[k].1 = v2 at *
    obtain ⟨ad1, cap1, rfl⟩ := hp.sl
    obtain ⟨ad2, cap2, rfl⟩ := hr.sl
    have SA : ∀ W, Below w.heap.size w W → Calls Try.prog 26 #[vnV (.slice ad1 x.ps.length cap1, x), vnV (.slice ad2 x.ps.length cap2, x)] W fun e w' => e = .returned (.bool true) ∧ Below W.heap.size W w' := fun W hW => rsame_true _ _ x W (hp.next hW) (hr.next hW) hsz
    exact ⟨b1, o1, b2, o2, ad1, cap1, ad2, cap2, x, e1, e2, fun W hW => ⟨⟨(hW.cell (p := ⟨b1, o1 + k * 5, none⟩) hb1).trans p0, (hW.cell (p := ⟨b1, o1 + k * 5 + 1, none⟩) hb1).trans p1, (hW.cell (p := ⟨b1, o1 + k * 5 + 2, none⟩) hb1).trans p2, (hW.cell (p := ⟨b1, o1 + k * 5 + 3, none⟩) hb1).trans p3, (hW.cell (p := ⟨b1, o1 + k * 5 + 4, none⟩) hb1).trans p4⟩, ⟨(hW.cell (p := ⟨b2, o2 + k * 5, none⟩) hb2).trans r0, (hW.cell (p := ⟨b2, o2 + k * 5 + 1, none⟩) hb2).trans r1, (hW.cell (p := ⟨b2, o2 + k * 5 + 2, none⟩) hb2).trans r2, (hW.cell (p := ⟨b2, o2 + k * 5 + 3, none⟩) hb2).trans r3, (hW.cell (p := ⟨b2, o2 + k * 5 + 4, none⟩) hb2).trans r4⟩⟩, SA⟩
  rw [hn]
  clear h1 h2 g1 g2 he hs hn
  generalize q1.length = n at *
  have e5 : ((n : Int) != (n : Int)) = false := by simp
  go_enter Try.func21, Try.ntmps21
  go_wp2
  clear e5
  go_loopw [5] (fun i wr => ∃ k : Nat, k ≤ n ∧ i = .int .i64 k ∧ Hid (Below w.heap.size w wr)) (fun i _ => n - (intOf i).toNat)
  case atStart => exact ⟨0, by omega, rfl, Below.refl _ _⟩
  case round =>
    obtain ⟨k, hk, rfl, HB⟩ := hrel
    by_cases hlt : k < n
    · have hk0 : (0 : Int) ≤ (k : Int) := by omega
      have hk1 : (k : Int) < (n : Int) := by omega
      obtain ⟨b1, o1, b2, o2, ad1, cap1, ad2, cap2, x, e1, e2, yy, sm⟩ := HC.out k hlt
      subst e1 e2
      have BD : Hid (Below w.heap.size w wr.drew) := HB.out.drew
      have YD := hid (yy _ BD.out)
      have SM : Hid (∀ W, Below w.heap.size w W → Calls Try.prog 26 #[.agg #[.int .i64 x.id, .bool x.ma, .int .i64 x.sz, .string x.sum, .slice ad1 x.ps.length cap1], .agg #[.int .i64 x.id, .bool x.ma, .int .i64 x.sz, .string x.sum, .slice ad2 x.ps.length cap2]] W fun e w' => e = .returned (.bool true) ∧ ((w'.cell? ⟨b1, o1 + k * 5, none⟩ = some (.int .i64 x.id) ∧ w'.cell? ⟨b1, o1 + k * 5 + 1, none⟩ = some (.bool x.ma) ∧ w'.cell? ⟨b1, o1 + k * 5 + 2, none⟩ = some (.int .i64 x.sz) ∧ w'.cell? ⟨b1, o1 + k * 5 + 3, none⟩ = some (.string x.sum) ∧ w'.cell? ⟨b1, o1 + k * 5 + 4, none⟩ = some (.slice ad1 x.ps.length cap1)) ∧ (w'.cell? ⟨b2, o2 + k * 5, none⟩ = some (.int .i64 x.id) ∧ w'.cell? ⟨b2, o2 + k * 5 + 1, none⟩ = some (.bool x.ma) ∧ w'.cell? ⟨b2, o2 + k * 5 + 2, none⟩ = some (.int .i64 x.sz) ∧ w'.cell? ⟨b2, o2 + k * 5 + 3, none⟩ = some (.string x.sum) ∧ w'.cell? ⟨b2, o2 + k * 5 + 4, none⟩ = some (.slice ad2 x.ps.length cap2))) ∧ Hid (Below w.heap.size w w')) := fun W hW => (sm W hW).mono fun e w' ⟨he, hb⟩ => ⟨he, yy _ (below_on hW hb), below_on hW hb⟩
      clear HC yy sm HB
      obtain ⟨id, ma, sz, sum, ps⟩ := x
      simp only at *
      generalize ps.length = pn at *
      go_wp2
      go_region_held3 (fun w' => (w'.cell? ⟨b1, o1 + k * 5, none⟩ = some (.int .i64 id) ∧ w'.cell? ⟨b1, o1 + k * 5 + 1, none⟩ = some (.bool ma) ∧ w'.cell? ⟨b1, o1 + k * 5 + 2, none⟩ = some (.int .i64 sz) ∧ w'.cell? ⟨b1, o1 + k * 5 + 3, none⟩ = some (.string sum) ∧ w'.cell? ⟨b1, o1 + k * 5 + 4, none⟩ = some (.slice ad1 pn cap1)) ∧ (w'.cell? ⟨b2, o2 + k * 5, none⟩ = some (.int .i64 id) ∧ w'.cell? ⟨b2, o2 + k * 5 + 1, none⟩ = some (.bool ma) ∧ w'.cell? ⟨b2, o2 + k * 5 + 2, none⟩ = some (.int .i64 sz) ∧ w'.cell? ⟨b2, o2 + k * 5 + 3, none⟩ = some (.string sum) ∧ w'.cell? ⟨b2, o2 + k * 5 + 4, none⟩ = some (.slice ad2 pn cap2))) (first | with_reducible exact YD.out | with_reducible assumption) (first | (go_at_call 26; with_reducible (refine (SM.out _ BD.out).mono ?_); rintro e w5 ⟨rfl, ZC, B5⟩))
      clear ZC SM YD BD
      go_wp2
      exact ⟨⟨k + 1, by omega, by go_num, B5⟩, by simp [intOf]; omega⟩
    · have hd : decide ((k : Int) < (n : Int)) = false := decide_eq_false (by omega)
      have hd2 : decide (k < n) = false := decide_eq_false hlt
      clear HC
      go_wp2
      go_ret
      exact ⟨rfl, HB.out⟩
end Go.Proofs.Ytbiapepalkdkdaa
namespace Go.Proofs.Ytbiapepalkdkdaa
open Go.RowKit Go.Maps
set_option linter.unusedVariables false
set_option linter.unusedSimpArgs false

theorem chF_lt {p : Option Int} {l : List Vn} (h : chF p l = true) : (∀ y, p = some y → ∀ v ∈ l, v.id < y) ∧ l.Pairwise (fun a b => b.id < a.id) := by
  induction l generalizing p with
  | nil => exact ⟨(fun _ _ v hv => by cases hv), List.Pairwise.nil⟩
  | cons x r ih =>
    simp only [chF, Bool.and_eq_true] at h
    obtain ⟨i1, i2⟩ := ih h.2
    refine ⟨fun y hy v hv => ?_, .cons (fun v hv => i1 _ rfl v hv) i2⟩
    have hx : x.id < y := by have := h.1.2; rw [hy] at this; simpa [vnBelow] using this
    rcases List.mem_cons.1 hv with e | e
    · rw [e]; exact hx
    · have := i1 _ rfl v e; omega
theorem isCh_falls {l : List Vn} (h : isCh l = true) : l.Pairwise (fun a b => b.id < a.id) := by
  simp only [isCh, Bool.and_eq_true] at h
  exact (chF_lt h.2).2
theorem hdGe_of {l : List Vn} (h : isCh l = true) {k : Nat} (hk : k < l.length) {v : Vn} (hv : v.id ≤ l[k].id) : hdGe l v = true := by
  cases l with
  | nil => simp at hk
  | cons y r =>
    have hp := isCh_falls h
    simp only [hdGe]
    cases k with
    | zero => exact decide_eq_true (by simpa using hv)
    | succ k =>
      have hk' : k < r.length := by simpa using hk
      have := (List.pairwise_cons.1 hp).1 r[k] (List.getElem_mem hk')
      simp only [List.getElem_cons_succ] at hv
      exact decide_eq_true (by omega)
theorem hdGe_no {l : List Vn} {v : Vn} (h : ∀ y ∈ l, y.id < v.id) : hdGe l v = false := by
  cases l with
  | nil => rfl
  | cons y r => simp only [hdGe]; have := h y (by simp); exact decide_eq_false (by omega)
/-- what bounds versions -/
def SzQ (q : List (Value × Vn)) : Prop := q.length ≤ 8796093022208 ∧ ∀ y ∈ q, y.2.sum.size ≤ 140737488355328 ∧ y.2.ps.length ≤ 8796093022208 ∧ ∀ p ∈ y.2.ps, p.id.size ≤ 140737488355328
set_option maxRecDepth 100000 in
set_option maxHeartbeats 2000000 in
theorem rput_any (v0 : Value) (q : List (Value × Vn)) (pv : Value) (x : Vn) (w : World) (hv : VnI w v0 q) (hp : PcI w pv x.ps) (hq : SzQ q) (hl : x.ps.length ≤ 8796093022208) (hs : ∀ p ∈ x.ps, p.id.size ≤ 140737488355328) (hu : x.sum.size ≤ 140737488355328) : Calls Try.prog 17 #[v0, vnV (pv, x)] w (GiveV w (putL (vqL q) x) (putE (vqL q) x)) := by
  obtain ⟨ad2, cap2, rfl⟩ := hp.sl
  obtain ⟨ad, cap, rfl, hc⟩ := hv.form
  have HBX : Hid (Below w.heap.size w (w.alloc (.cells #[.int .i64 x.id, .bool x.ma, .int .i64 x.sz, .string x.sum, .slice ad2 x.ps.length cap2] 36))) := below_al (Below.refl _ _) _
  have BM := hid (Bx.made (Below.refl w.heap.size w) [.int .i64 x.id, .bool x.ma, .int .i64 x.sz, .string x.sum, .slice ad2 x.ps.length cap2] 36)
  have IC := hid (rmay_any (.slice ad q.length cap) q _ (hv.next HBX.out) hq.1 hq.2)
  have CK : Hid (∀ W, Below w.heap.size w W → Calls Try.prog 14 #[vnV (.slice ad2 x.ps.length cap2, x)] W fun e w' => e = .returned (.int .i64 (vnE x)) ∧ Below W.heap.size W w') := fun W hW => rvcheck_any _ x W (hp.next hW) hl hs hu
  have HPE : Hid (putE (vqL q) x = if isCh (vqL q) = true ∧ vnOk x = true then (if hdGe (vqL q) x = true then 1 else if q.length = 32 then 131 else 0) else 1) := by show _ = _; unfold putE; rw [vqL_len]
  have HPL : Hid (putL (vqL q) x = if putE (vqL q) x = 0 then x :: vqL q else []) := rfl
  have HE := hid (vnE_cases x)
  have HLN : Hid (isCh (vqL q) = true → q.length ≤ 32) := fun h => by have := isCh_len h; rw [vqL_len] at this; exact this
  have HHY : Hid (isCh (vqL q) = true → ∀ (k : Nat) (hk : k < q.length), x.id ≤ q[k].2.id → hdGe (vqL q) x = true) := fun h k hk hx => hdGe_of h (by rw [vqL_len]; exact hk) (by rw [vqL_get q k hk]; exact hx)
  have HHN : Hid ((∀ y ∈ q, y.2.id < x.id) → hdGe (vqL q) x = false) := fun h => hdGe_no fun y hy => by
    obtain ⟨z, hz, rfl⟩ := List.mem_map.1 hy
    exact h z hz
  have HC := hid hc
  have HFI : Hid (∀ W u, Below w.heap.size w W → RowC W u (1 + q.length) (vnC (.slice ad2 x.ps.length cap2, x) ++ vqC q) → VnI W u ((.slice ad2 x.ps.length cap2, x) :: q)) := fun W u hW hr => ⟨by
      show RowC W u (q.length + 1) (vqC (_ :: q))
      rw [Nat.add_comm, show vqC ((.slice ad2 x.ps.length cap2, x) :: q) = vnC (.slice ad2 x.ps.length cap2, x) ++ vqC q from rfl]
      exact hr, fun y hy => by
      rcases List.mem_cons.1 hy with e | e
      · rw [e]; exact hp.next hW
      · exact (hv.2 y e).next hW⟩
  have HRC : Hid (∀ W, Below w.heap.size w W → RowC W (.slice ad q.length cap) q.length (vqC q)) := fun W hW => hv.1.next hW
  have HO1 := hid (vqC_cell hv.2)
  have HQL := hid (vqC_len q)
  have HTA : Hid (∀ (k : Nat) (hk : k < q.length), (∀ y ∈ q.take k, y.2.id < x.id) → q[k].2.id < x.id → ∀ y ∈ q.take (k + 1), y.2.id < x.id) := fun k hk h h2 y hy => by
    rw [List.take_succ_eq_append_getElem hk] at hy
    rcases List.mem_append.1 hy with e | e
    · exact h y e
    · rw [List.mem_singleton.1 e]; exact h2
  clear hc hv hp hq hl hs hu
  unfold vnV at *
  obtain ⟨id, ma, sz, sum, ps⟩ := x
  simp only at *
  generalize hdGe _ _ = HG at *
  generalize putE _ _ = PE at *
  generalize putL _ _ = PL at *
  generalize isCh _ = IS at *
  generalize vnE _ = E at *
  generalize hok : vnOk _ = OK at *
  clear hok
  generalize hpn : ps.length = pn at *
  clear hpn
  go_enter Try.func17, Try.ntmps17
  go_wp2_with fail
  refine IC.out.mono ?_
  rintro e w1 ⟨rfl, b1⟩
  have B1 := hid (BM.out.next b1)
  clear IC b1 BM HBX
  cases IS
  · have hpe : PE = 1 := by rw [HPE.out]; simp
    subst hpe
    have hpl : PL = [] := by rw [HPL.out]; simp
    subst hpl
    clear CK HPE HPL HE HLN HHY HHN HFI HRC HO1 HQL HC HTA
    go_wp2
    go_ret2
    exact giveV_none B1.out.b
  · obtain ⟨⟨y0, y1, y2, y3, y4⟩, -⟩ := B1.out.may
    go_wp2_with fail
    refine (CK.out _ B1.out.b).mono ?_
    rintro e w2 ⟨rfl, b2⟩
    have B2 := hid (B1.out.next b2)
    clear CK b2 B1 y0 y1 y2 y3 y4
    rcases HE.out with ⟨rfl, rfl⟩ | ⟨rfl, rfl⟩
    · have h32 := HLN.out (by first | rfl | trivial)
      have HHY2 : Hid (∀ (k : Nat) (hk : k < q.length), id ≤ q[k].2.id → HG = true) := HHY.out (by first | rfl | trivial)
      have HPE2 : Hid (PE = if HG = true then 1 else if q.length = 32 then 131 else 0) := by have := HPE.out; rw [if_pos ⟨by first | rfl | trivial, by first | rfl | trivial⟩] at this; exact this
      clear HHY HPE HLN HE
      go_wp2
      go_loopw [6] (fun i wr => ∃ (k : Nat), k ≤ q.length ∧ i = .int .i64 (k : Int) ∧ Hid (Bx w w.heap.size [.int .i64 id, .bool ma, .int .i64 sz, .string sum, .slice ad2 pn cap2] 36 wr) ∧ Hid (∀ y ∈ q.take k, y.2.id < id)) (fun i _ => q.length - (intOf i).toNat)
      case atStart => exact ⟨0, Nat.zero_le _, rfl, B2, fun y hy => by simp at hy⟩
      case round =>
        clear B2
        obtain ⟨k, hk, rfl, BR, HA⟩ := hrel
        by_cases hlt : k < q.length
        · have hk1 : (k : Int) < (q.length : Int) := by omega
          have hk0 : (0 : Int) ≤ (k : Int) := by omega
          have hwk : wrap64 ((k : Int) + 1) = ((k + 1 : Nat) : Int) := by rw [IntWalk.wrap64_in _ (by omega)]; omega
          obtain ⟨b, off, rfl, hb, c0, -⟩ := HC.out k hlt
          have d0 := (BR.out.b.cell (p := ⟨b, off + k * 5, none⟩) hb).trans c0
          have y0 := BR.out.row.cellAt (o := 0) rfl
          have HLT := hid hlt
          have HT2 := hid (HTA.out k hlt HA.out)
          have HH2 := hid (HHY2.out k hlt)
          have hk33 : (k : Int) < 33 := by omega
          clear HC HTA HHN HFI HRC HO1 HQL HHY2 hb c0
          generalize q[k].2.id = z at *
          by_cases hge : id ≤ z
          · have g1 : decide (id ≤ z) = true := decide_eq_true hge
            have hg := HH2.out hge
            subst hg
            have hpe : PE = 1 := HPE2.out
            subst hpe
            have hpl : PL = [] := by rw [HPL.out]; simp
            subst hpl
            clear HPE2 HPL HT2 HH2 HA hge h32 hlt hk
            go_wp2
            go_quiet (fail)
            go_wp2
            go_ret2
            exact giveV_none (BR.out.drewN _).b
          · have g1 : decide (id ≤ z) = false := decide_eq_false hge
            have HA2 := hid (HT2.out (by omega))
            clear HPE2 HPL HT2 HH2 HA hge h32 hlt hk
            go_wp2
            go_quiet (fail)
            have BR2 := hid (BR.out.drewN nq)
            clear BR d0 y0
            go_wp2
            exact ⟨⟨k + 1, HLT.out, by first | rw [hwk] | rfl | simp, BR2, HA2⟩, by (try rw [hwk]); have := HLT.out; simp [intOf]; omega⟩
        · have hke : k = q.length := by omega
          have hd : decide ((k : Int) < (q.length : Int)) = false := decide_eq_false (by omega)
          have hd2 : decide (k < q.length) = false := decide_eq_false hlt
          have hg := HHN.out (by have := HA.out; rw [hke, List.take_length] at this; exact this)
          subst hg
          have HPE3 : Hid (PE = if q.length = 32 then 131 else 0) := HPE2.out
          clear HHN HPE2 HTA HHY2 HC HA hlt hk hke
          by_cases h9 : q.length = 32
          · have g4 : decide ((32 : Int) ≤ (q.length : Int)) = true := decide_eq_true (by omega)
            have g5 : decide (32 ≤ q.length) = true := decide_eq_true (by omega)
            have hpe : PE = 131 := by rw [HPE3.out, if_pos h9]
            subst hpe
            have hpl : PL = [] := by rw [HPL.out]; simp
            subst hpl
            clear HPE3 HPL HFI HRC HO1 HQL h9 h32
            go_wp2
            go_ret2
            exact giveV_none BR.out.b
          · have g4 : decide ((32 : Int) ≤ (q.length : Int)) = false := decide_eq_false (by omega)
            have g5 : decide (32 ≤ q.length) = false := decide_eq_false (by omega)
            have hpe : PE = 0 := by rw [HPE3.out, if_neg h9]
            subst hpe
            have hpl : PL = ⟨id, ma, sz, sum, ps⟩ :: vqL q := by rw [HPL.out]; simp
            subst hpl
            clear HPE3 HPL h9
            obtain ⟨⟨y0, y1, y2, y3, y4⟩, -⟩ := BR.out.may
            have HGA : Hid ((wr.alloc (.cells #[.int .i64 id, .bool ma, .int .i64 sz, .string sum, .slice ad2 pn cap2] 36)).ownsRow w.heap.size 36 5 (.slice (some ⟨wr.heap.size, 0, none⟩) 1 1) 1 (vnC (.slice ad2 pn cap2, ⟨id, ma, sz, sum, ps⟩))) := own_made wr _ _ 5 1 _ BR.out.b.size rfl (by omega)
            have HBA : Hid (Below w.heap.size w (wr.alloc (.cells #[.int .i64 id, .bool ma, .int .i64 sz, .string sum, .slice ad2 pn cap2] 36))) := below_al BR.out.b _
            have HRA := hid (HRC.out _ HBA.out)
            have HSZ := hid HBA.out.size
            have HB1 : Hid (1 + q.length ≤ 4611686018427387904) := by show _ ≤ _; omega
            have HB2 : Hid ((1 + q.length) * 64 ≤ 140737488355328) := by show _ ≤ _; omega
            have FIN : Hid (∀ ad' cap' w', w'.ownsRow w.heap.size 36 5 (.slice ad' (1 + q.length) cap') (1 + q.length) (vnC (.slice ad2 pn cap2, ⟨id, ma, sz, sum, ps⟩) ++ vqC q) → Keep (fun j => (Value.slice (some ⟨wr.heap.size, 0, none⟩) 1 1).ownBlock = some j) (wr.alloc (.cells #[.int .i64 id, .bool ma, .int .i64 sz, .string sum, .slice ad2 pn cap2] 36)) w' → GiveV w (⟨id, ma, sz, sum, ps⟩ :: vqL q) 0 (.returned (.tuple #[.slice ad' (1 + q.length) cap', .int .i64 0])) w') := fun ad' cap' w' hr hk' => by
              have hb := HBA.out.trans (keep_below hk' (fun j hj e => by have := ownsRow_ge HGA.out e; omega) HSZ.out)
              exact ⟨_, _, _, _, rfl, rfl, HFI.out w' _ hb (RowC.own hr), hb⟩
            generalize vnC (.slice ad2 pn cap2, ⟨id, ma, sz, sum, ps⟩) = XS at *
            generalize vqC q = YS at *
            clear HFI HRC h32 HBA
            go_wp2_with (at_builtin; refine wpl_gappR rfl _ _ elRV rfl w.heap.size (.slice (some ⟨wr.heap.size, 0, none⟩) 1 1) (.slice ad q.length cap) XS YS 1 q.length (1 + q.length) rfl rfl rfl HGA.out HSZ.out HRA.out HQL.out HO1.out HB1.out HB2.out ?_; intro ad' cap' w' hr' hk')
            have AP := hid (FIN.out _ _ _ hr' hk')
            clear hr' hk' FIN HGA HRA HSZ HQL HO1 HB1 HB2 y0 y1 y2 y3 y4
            go_wp2
            go_ret2
            exact AP.out
    · have hpe : PE = 1 := by rw [HPE.out]; simp
      subst hpe
      have hpl : PL = [] := by rw [HPL.out]; simp
      subst hpl
      clear HPE HPL HE HLN HHY HHN HFI HRC HO1 HQL HC HTA
      go_wp2
      go_ret2
      exact giveV_none B2.out.b
def noId (n : Int) (v : Vn) : Bool := v.id != n
theorem fil_none {n : Int} : ∀ {l : List Vn} {k : Nat}, idxF n l k = none → l.filter (noId n) = l
  | [], _, _ => rfl
  | v :: r, k, h => by
    unfold idxF at h
    split at h
    · cases h
    · rename_i hv
      have : noId n v = true := by unfold noId; rw [bne_iff_ne]; exact hv
      rw [List.filter_cons_of_pos this, fil_none h]
theorem fil_some {n : Int} : ∀ {l : List Vn} {k j : Nat}, l.Pairwise (fun a b => b.id < a.id) → idxF n l k = some j → l.filter (noId n) = l.take (j - k) ++ l.drop (j - k + 1)
  | [], _, _, _, h => by simp [idxF] at h
  | v :: r, k, j, hp, h => by
    unfold idxF at h
    obtain ⟨hp1, hp2⟩ := List.pairwise_cons.1 hp
    split at h
    · rename_i hv
      injection h with h
      subst h
      have : ¬ noId n v = true := by unfold noId; rw [bne_iff_ne]; exact fun h => h hv
      rw [List.filter_cons_of_neg this, Nat.sub_self]
      simp only [List.take_zero, List.nil_append, Nat.zero_add, List.drop_succ_cons, List.drop_zero]
      rw [List.filter_eq_self]
      intro y hy
      have := hp1 y hy
      unfold noId
      rw [bne_iff_ne]
      omega
    · rename_i hv
      have : noId n v = true := by unfold noId; rw [bne_iff_ne]; exact hv
      have hj := (idxF_some h).1
      rw [List.filter_cons_of_pos this, fil_some hp2 h, show j - k = (j - (k + 1)) + 1 by omega]
      simp
theorem fil_q (n : Int) (q : List (Value × Vn)) : vqL (q.filter (fun y => noId n y.2)) = (vqL q).filter (noId n) := by
  unfold vqL
  rw [List.filter_map]
  rfl
set_option maxRecDepth 100000 in
set_option maxHeartbeats 2000000 in
theorem rdrop_any (v : Value) (q : List (Value × Vn)) (n : Int) (w : World) (hv : VnI w v q) (hq : SzQ q) : Calls Try.prog 20 #[v, .int .i64 n] w (GiveV w (drL (vqL q) n) (plE (vqL q) n)) := by
  obtain ⟨ad, cap, rfl, hc⟩ := hv.form
  have IC := hid (rmay_any (.slice ad q.length cap) q w hv hq.1 hq.2)
  have HC := hid hc
  have HCH := hid (pl_cases (vqL q) n)
  have HD : Hid (drL (vqL q) n = match plO (vqL q) n with | some j => (vqL q).take j ++ (vqL q).drop (j + 1) | none => []) := rfl
  have HPO : Hid (isCh (vqL q) = true → plO (vqL q) n = idxF n (vqL q) 0) := fun h => by unfold plO; rw [if_pos h]
  have HFA : Hid (isCh (vqL q) = true → (vqL q).Pairwise (fun a b => b.id < a.id)) := isCh_falls
  have HLN : Hid (isCh (vqL q) = true → q.length ≤ 32) := fun h => by have := isCh_len h; rw [vqL_len] at this; exact this
  have HVP : Hid (∀ W, Below w.heap.size w W → VqP W (q.filter (fun y => noId n y.2))) := fun W hW y hy => (hv.2 y ((List.mem_filter.1 hy).1)).next hW
  have HTK : Hid (∀ (k : Nat) (hk : k < q.length), (q.take (k + 1)).filter (fun y => noId n y.2) = (q.take k).filter (fun y => noId n y.2) ++ (if noId n q[k].2 = true then [q[k]] else [])) := fun k hk => by
    rw [List.take_succ_eq_append_getElem hk, List.filter_append]
    congr 1
    by_cases h : noId n q[k].2 = true
    · simp [List.filter_cons, h]
    · simp [List.filter_cons, h]
  have HLE : Hid (∀ k, ((q.take k).filter (fun y => noId n y.2)).length ≤ q.length) := fun k => by
    have h1 := List.length_filter_le (fun y : Value × Vn => noId n y.2) (q.take k)
    have h2 : (q.take k).length ≤ q.length := by simp; omega
    omega
  have HLK : Hid (∀ k, ((q.take k).filter (fun y => noId n y.2)).length ≤ k) := fun k => by
    have h1 := List.length_filter_le (fun y : Value × Vn => noId n y.2) (q.take k)
    have h2 : (q.take k).length ≤ k := by simp; omega
    omega
  clear hc hv hq
  generalize hIS : isCh (vqL q) = IS at *
  go_enter Try.func20, Try.ntmps20
  go_wp2_with fail
  refine IC.out.mono ?_
  rintro e w1 ⟨rfl, b1⟩
  have B1 := hid b1
  clear IC b1
  cases IS
  · have hx : plO (vqL q) n = none ∧ plE (vqL q) n = 1 := by
      rcases HCH.out with ⟨_, h2, h3, _⟩ | ⟨h1, _⟩ | ⟨h1, _⟩
      · exact ⟨h2, h3⟩
      · cases h1
      · cases h1
    have hd : drL (vqL q) n = [] := by rw [HD.out, hx.1]
    have FIN : Hid (GiveV w (drL (vqL q) n) (plE (vqL q) n) (.returned (.tuple #[.slice none 0 0, .int .i64 1])) w1) := by rw [hd, hx.2]; exact giveV_none B1.out
    clear hx hd HC HCH HD HPO HFA HLN HVP HTK HLE HLK hIS
    generalize drL _ _ = DL at *
    generalize plE _ _ = PE at *
    go_wp2
    go_ret2
    exact FIN.out
  · have h32 := HLN.out rfl
    have HEND : Hid (∀ W u, Below w.heap.size w W → VnI W u (q.filter (fun y => noId n y.2)) → (∃ ad m cap, u = .slice ad m cap) → ((q.filter (fun y => noId n y.2)).length = q.length → GiveV w (drL (vqL q) n) (plE (vqL q) n) (.returned (.tuple #[.slice none 0 0, .int .i64 4])) W) ∧ ((q.filter (fun y => noId n y.2)).length ≠ q.length → GiveV w (drL (vqL q) n) (plE (vqL q) n) (.returned (.tuple #[u, .int .i64 0])) W)) := fun W u hW hI hu => by
      have hfq := fil_q n q
      rcases HCH.out with ⟨h1, _⟩ | ⟨h1, h2, h3, _⟩ | ⟨h1, j, h2, h3, _, h5, h6⟩
      · cases h1
      · have hd : drL (vqL q) n = [] := by rw [HD.out, h2]
        rw [HPO.out rfl] at h2
        rw [fil_none h2] at hfq
        have hlen : (q.filter (fun y => noId n y.2)).length = q.length := by rw [← vqL_len, hfq, vqL_len]
        refine ⟨fun _ => by rw [hd, h3]; exact giveV_none hW, fun h => absurd hlen h⟩
      · have hd : drL (vqL q) n = (vqL q).take j ++ (vqL q).drop (j + 1) := by rw [HD.out, h2]
        rw [HPO.out rfl] at h2
        have hf := fil_some (HFA.out rfl) h2
        rw [hf] at hfq
        simp only [Nat.sub_zero] at hfq
        have hlen : (q.filter (fun y => noId n y.2)).length ≠ q.length := by
          rw [← vqL_len, hfq]
          rw [vqL_len] at h5
          simp [vqL_len]
          omega
        refine ⟨fun h => absurd h hlen, fun _ => ?_⟩
        obtain ⟨ad, m, cap, rfl⟩ := hu
        rw [hd, h3]
        exact ⟨ad, m, cap, _, rfl, hfq, hI, hW⟩
    clear HCH HD HPO HFA HLN hIS
    generalize drL _ _ = DL at *
    generalize plE _ _ = PE at *
    go_wp2
    go_loopw [6, 7] (fun o i wr => ∃ (k m : Nat) (ad1 : Option Addr) (cp1 : Nat), k ≤ q.length ∧ o = .slice ad1 m cp1 ∧ i = .int .i64 (k : Int) ∧ Hid (m = ((q.take k).filter (fun y => noId n y.2)).length ∧ wr.ownsRow w.heap.size 36 5 (.slice ad1 m cp1) m (vqC ((q.take k).filter (fun y => noId n y.2)))) ∧ Hid (Below w.heap.size w wr)) (fun _ i _ => q.length - (intOf i).toNat)
    case atStart => exact ⟨0, 0, none, 0, Nat.zero_le _, rfl, rfl, ⟨rfl, rfl, .inl ⟨rfl, rfl⟩⟩, B1⟩
    case round =>
      clear B1
      obtain ⟨k, m, ad1, cp1, hk, rfl, rfl, HR, HB⟩ := hrel
      by_cases hlt : k < q.length
      · have hk1 : (k : Int) < (q.length : Int) := by omega
        have hk0 : (0 : Int) ≤ (k : Int) := by omega
        have hwk : wrap64 ((k : Int) + 1) = ((k + 1 : Nat) : Int) := by rw [IntWalk.wrap64_in _ (by omega)]; omega
        obtain ⟨b, off, rfl, hb, c0, c1, c2, c3, c4, hp⟩ := HC.out k hlt
        have d0 := (HB.out.cell (p := ⟨b, off + k * 5, none⟩) hb).trans c0
        have d1 := (HB.out.cell (p := ⟨b, off + k * 5 + 1, none⟩) hb).trans c1
        have d2 := (HB.out.cell (p := ⟨b, off + k * 5 + 2, none⟩) hb).trans c2
        have d3 := (HB.out.cell (p := ⟨b, off + k * 5 + 3, none⟩) hb).trans c3
        have d4 := (HB.out.cell (p := ⟨b, off + k * 5 + 4, none⟩) hb).trans c4
        have HT := hid (HTK.out k hlt)
        have HLT := hid hlt
        have hmk : m ≤ k := by rw [HR.out.1]; exact HLK.out k
        have hpf := hp.sl
        have HNI : Hid (noId n q[k].2 = (q[k].2.id != n)) := rfl
        have hk33 : (k : Int) < 33 := by omega
        clear HC c0 c1 c2 c3 c4 hp hb HEND HTK HLE HLK HVP
        generalize q[k] = y at *
        obtain ⟨pv, id, ma, sz, sum, ps⟩ := y
        simp only at *
        obtain ⟨ad2, cap2, rfl⟩ := hpf
        generalize hpn : ps.length = pn at *
        clear hpn
        by_cases hi : id = n
        · have g1 : (id != n) = false := by rw [hi]; simp
          have HR2 : Hid (m = ((q.take (k + 1)).filter (fun y => noId n y.2)).length ∧ wr.ownsRow w.heap.size 36 5 (.slice ad1 m cp1) m (vqC ((q.take (k + 1)).filter (fun y => noId n y.2)))) := by
            have e := HT.out
            rw [HNI.out, g1, if_neg (by simp), List.append_nil] at e
            show _ ∧ _
            rw [e]
            exact HR.out
          clear HT HNI hi HR hlt hk h32
          go_wp2
          exact ⟨⟨k + 1, m, _, _, HLT.out, rfl, by first | rw [hwk] | rfl | simp, HR2, HB⟩, by (try rw [hwk]); have := HLT.out; simp [intOf]; omega⟩
        · have g1 : (id != n) = true := by rw [bne_iff_ne]; exact hi
          have HE2 : Hid ((q.take (k + 1)).filter (fun y => noId n y.2) = (q.take k).filter (fun y => noId n y.2) ++ [(.slice ad2 pn cap2, ⟨id, ma, sz, sum, ps⟩)]) := by
            have e := HT.out
            rw [HNI.out, g1, if_pos rfl] at e
            exact e
          have HGA : Hid ((wr.alloc (.cells #[.int .i64 id, .bool ma, .int .i64 sz, .string sum, .slice ad2 pn cap2] 36)).ownsRow w.heap.size 36 5 (.slice ad1 m cp1) m (vqC ((q.take k).filter (fun y => noId n y.2)))) := (keep_alloc (fun _ => False) _ _).ownsRow HR.out.2 (fun _ _ h => h)
          have HGX : Hid (GSrc (wr.alloc (.cells #[.int .i64 id, .bool ma, .int .i64 sz, .string sum, .slice ad2 pn cap2] 36)) (.slice (some ⟨wr.heap.size, 0, none⟩) 1 1) 1 (vnC (.slice ad2 pn cap2, ⟨id, ma, sz, sum, ps⟩))) := gsrc_block (heap_alloc_new _ _)
          have HSZ : Hid (w.heap.size ≤ (wr.alloc (.cells #[.int .i64 id, .bool ma, .int .i64 sz, .string sum, .slice ad2 pn cap2] 36)).heap.size) := Nat.le_trans HB.out.size (keep_alloc (fun _ => False) _ _).size
          have HO1 := hid (vnC_one ad2 pn cap2 ⟨id, ma, sz, sum, ps⟩)
          have HX2 : Hid ((vnC (.slice ad2 pn cap2, ⟨id, ma, sz, sum, ps⟩)).length = 1 * 5) := rfl
          have HB1 : Hid (m + 1 ≤ 4611686018427387904) := by show _ ≤ _; omega
          have HB2 : Hid ((m + 1) * 64 ≤ 140737488355328) := by show _ ≤ _; omega
          have FIN : Hid (∀ ad' cap' w', w'.ownsRow w.heap.size 36 5 (.slice ad' (m + 1) cap') (m + 1) (vqC ((q.take k).filter (fun y => noId n y.2)) ++ vnC (.slice ad2 pn cap2, ⟨id, ma, sz, sum, ps⟩)) → Keep (fun j => (Value.slice ad1 m cp1).ownBlock = some j) (wr.alloc (.cells #[.int .i64 id, .bool ma, .int .i64 sz, .string sum, .slice ad2 pn cap2] 36)) w' → Hid (m + 1 = ((q.take (k + 1)).filter (fun y => noId n y.2)).length ∧ w'.ownsRow w.heap.size 36 5 (.slice ad' (m + 1) cap') (m + 1) (vqC ((q.take (k + 1)).filter (fun y => noId n y.2)))) ∧ Hid (Below w.heap.size w w')) := fun ad' cap' w' hr hk' => by
            refine ⟨?_, (below_al HB.out _).trans (keep_below hk' (fun j hj e => by have := ownsRow_ge HGA.out e; omega) HSZ.out)⟩
            show _ ∧ _
            rw [HE2.out, vqC_app, vqC_one, List.length_append, ← HR.out.1]
            exact ⟨rfl, hr⟩
          generalize vnC (.slice ad2 pn cap2, ⟨id, ma, sz, sum, ps⟩) = XS at *
          generalize vqC ((q.take k).filter (fun y => noId n y.2)) = YS at *
          clear HT HNI hi HR hlt hk h32 HE2 hmk
          go_wp2_with (at_builtin; refine wpl_gappL rfl _ _ elRV rfl w.heap.size (.slice ad1 m cp1) (.slice (some ⟨wr.heap.size, 0, none⟩) 1 1) YS XS m 1 (m + 1) rfl rfl rfl HGA.out HSZ.out HGX.out HX2.out HO1.out HB1.out HB2.out ?_; intro ad' cap' w' hr' hk')
          obtain ⟨F1, F2⟩ := FIN.out _ _ _ hr' hk'
          clear hr' hk' FIN HGA HGX HSZ d0 d1 d2 d3 d4 HB HO1 HX2 HB1 HB2
          go_wp2
          exact ⟨⟨k + 1, m + 1, _, _, HLT.out, by first | rfl | simp, by first | rw [hwk] | rfl | simp, F1, F2⟩, by (try rw [hwk]); have := HLT.out; simp [intOf]; omega⟩
      · have hke : k = q.length := by omega
        have hd : decide ((k : Int) < (q.length : Int)) = false := decide_eq_false (by omega)
        have hd2 : decide (k < q.length) = false := decide_eq_false hlt
        obtain ⟨hm, hr⟩ := HR.out
        rw [hke, List.take_length] at hm hr
        have HI : Hid (VnI wr (.slice ad1 m cp1) (q.filter (fun y => noId n y.2))) := ⟨by rw [← hm]; exact RowC.own hr, HVP.out _ HB.out⟩
        obtain ⟨E1, E2⟩ := HEND.out wr _ HB.out HI.out ⟨_, _, _, rfl⟩
        rw [← hm] at E1 E2
        have HE1 := hid E1
        have HE2 := hid E2
        clear HC HVP HTK HLE HLK HEND HR hlt hk hke hm hr HI E1 E2
        by_cases h9 : m = q.length
        · have g4 : ((m : Int) == (q.length : Int)) = true := by rw [h9]; simp
          have F := hid (HE1.out h9)
          clear HE1 HE2 h9
          go_wp2
          go_ret2
          exact F.out
        · have g4 : ((m : Int) == (q.length : Int)) = false := beq_eq_false_iff_ne.2 (by omega)
          have F := hid (HE2.out h9)
          clear HE1 HE2 h9
          go_wp2
          go_ret2
          exact F.out
end Go.Proofs.Ytbiapepalkdkdaa
