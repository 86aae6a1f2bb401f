/- Joined: Outcomes: their texts, the program's and the document's. Outcomes out of texts: the program's and the document's. The walk of the law CmdOuts. -/
import Derived.Test.YtikkpfchbcfhlaaGreatJoined22
import Derived.Test.YtikkpfchbcfhlaaGreatJoined23
import Derived.Test.YtikkpfchbcfhlaaGreatJoined16
import Derived.Test.YtikkpfchbcfhlaaGreatCvU
import Derived.Test.YtikkpfchbcfhlaaGreatJoined17
import Derived.Deep.CutRange
namespace Go.Proofs.YtikkpfchbcfhlaaGreat
open Go.RowKit Go.Maps
set_option linter.unusedVariables false
set_option linter.unusedSimpArgs false

structure Ou where
  co : Int
  id : Int
  su : ByteArray
def ouV (o : Ou) : Value := .agg #[.int .i64 o.co, .int .i64 o.id, .string o.su]
def ouOk (o : Ou) : Bool := wiB o.co 0 999 && wiB o.id 0 1099511627776 && decide (o.su.size ≤ 64)
def ouB (o : Ou) : List UInt8 := put o.co.toNat ++ put o.id.toNat ++ ptx o.su
def ouT (o : Ou) : ByteArray := if ouOk o = true then ⟨(ouB o).toArray⟩ else ⟨#[]⟩
def ouE (o : Ou) : Int := if ouOk o = true then 0 else 1
structure OdR where
  a : Int
  e : Int
  o : Ou
def rdO (s : ByteArray) : OdR :=
  let a := dcN s 999 0 0
  let b := dcN s 1099511627776 a.a a.e
  let t := tS s b.a b.e 64
  ⟨t.a, t.e, ⟨(a.n : Int), (b.n : Int), t.x⟩⟩
def ou0 : Ou := ⟨0, 0, ⟨#[]⟩⟩
def odOk (s : ByteArray) : Bool := endE s (rdO s).a (rdO s).e == 0
def odV (s : ByteArray) : Ou := if odOk s = true then (rdO s).o else ou0
def odE (s : ByteArray) : Int := if odOk s = true then 0 else 3
theorem ou_bd {o : Ou} (h : ouOk o = true) : 0 ≤ o.co ∧ o.co ≤ 999 ∧ 0 ≤ o.id ∧ o.id ≤ 1099511627776 ∧ o.su.size ≤ 64 := by
  unfold ouOk wiB at h
  simp at h
  omega
theorem rdO_in (s : ByteArray) : 0 ≤ (rdO s).o.co ∧ (rdO s).o.co ≤ 999 ∧ 0 ≤ (rdO s).o.id ∧ (rdO s).o.id ≤ 1099511627776 ∧ (rdO s).o.su.size ≤ 64 := by
  unfold rdO
  simp only
  have h1 := dcN_le s 999 0 0 (by omega)
  have h2 := dcN_le s 1099511627776 (dcN s 999 0 0).a (dcN s 999 0 0).e (by omega)
  have h3 := tS_len s (dcN s 1099511627776 (dcN s 999 0 0).a (dcN s 999 0 0).e).a (dcN s 1099511627776 (dcN s 999 0 0).a (dcN s 999 0 0).e).e 64 (by omega)
  refine ⟨by omega, h1, by omega, h2, by omega⟩
theorem od_in (s : ByteArray) : ouOk (odV s) = true := by
  unfold odV
  split
  · have h := rdO_in s
    unfold ouOk wiB
    simp
    omega
  · decide +kernel
theorem od_enc {o : Ou} (h : ouOk o = true) : odOk (ouT o) = true ∧ odV (ouT o) = o := by
  obtain ⟨h1, h2, h3, h4, h5⟩ := ou_bd h
  have he : ouT o = ⟨(ouB o).toArray⟩ := by unfold ouT; rw [if_pos h]
  have hd : (ouT o).data.toList = ouB o := by rw [he]
  have a1 := dcN_put (ouT o) [] (put o.id.toNat ++ ptx o.su) o.co.toNat 999 (by rw [hd]; simp [ouB]) (by omega) (by omega)
  have a1' : dcN (ouT o) 999 0 0 = ⟨(((put o.co.toNat).length : Nat) : Int), 0, o.co.toNat⟩ := a1
  have a2 := dcN_put (ouT o) (put o.co.toNat) (ptx o.su) o.id.toNat 1099511627776 (by rw [hd]; simp [ouB]) (by omega) (by omega)
  have a3 := tS_put (ouT o) (put o.co.toNat ++ put o.id.toNat) [] o.su 64 (by rw [hd]; simp [ouB]) (by omega) (by omega)
  have hT : rdO (ouT o) = ⟨(((ouB o).length : Nat) : Int), 0, o⟩ := by
    unfold rdO
    rw [a1']
    simp only
    rw [a2]
    simp only
    rw [a3]
    obtain ⟨co, id, su⟩ := o
    simp only at *
    rw [show ((co.toNat : Nat) : Int) = co by omega, show ((id.toNat : Nat) : Int) = id by omega]
    rfl
  have hz : (ouT o).size = (ouB o).length := size_of _ _ hd
  have hok : odOk (ouT o) = true := by
    unfold odOk
    rw [hT]
    simp only
    have : endE (ouT o) (((ouB o).length : Nat) : Int) 0 = 0 := by
      unfold endE
      rw [if_neg]
      intro hc
      rw [hz] at hc
      omega
    rw [this]
    rfl
  refine ⟨hok, ?_⟩
  unfold odV
  rw [if_pos hok, hT]
theorem od_one {t : ByteArray} (h : odOk t = true) : ouT (odV t) = t := by
  have hin := od_in t
  have hv : odV t = (rdO t).o := by unfold odV; rw [if_pos h]
  unfold ouT
  rw [if_pos hin, hv]
  unfold odOk at h
  have h1 := beq_iff_eq.1 h
  unfold endE at h1
  split at h1
  · cases h1
  · rename_i hc
    have hh : (rdO t).e = 0 := h1
    have T0 : Tok t 0 (rdO t).a (ouB (rdO t).o) := by
      unfold rdO at hh ⊢
      simp only at hh ⊢
      have e2 := st_T hh
      have e1 := st_N e2
      have t1 := tok_N t 999 0 0 e1
      rw [show ((0 : Nat) : Int) = 0 from rfl] at t1
      generalize dcN t 999 0 0 = Y at *
      obtain ⟨ya, ye, yn⟩ := Y
      simp only at *
      have t1' := t1
      obtain ⟨c, rfl, c1, c2, _⟩ := t1'
      have t2 := tok_N t 1099511627776 ye c e2
      generalize dcN t 1099511627776 (c : Int) ye = Z at *
      obtain ⟨za, ze, zn⟩ := Z
      simp only at *
      have t2' := t2
      obtain ⟨d, rfl, d1, d2, _⟩ := t2'
      have t3 := tok_T t 64 ze d hh
      have := (t1.trans t2).trans t3
      unfold ouB
      simpa using this
    obtain ⟨c, hc1, c1, c2, c3⟩ := T0
    have hcs : c = t.size := by
      have : ¬ ((rdO t).e = 0 ∧ (rdO t).a < (t.size : Int)) := hc
      have := fun hx => this ⟨hh, hx⟩
      omega
    rw [hcs] at c3
    have e2 : t.data.toList = ouB (rdO t).o := by
      rw [← c3, Nat.sub_zero, List.drop_zero, List.take_of_length_le (by simp)]
    rw [← e2]
set_option maxRecDepth 100000 in
set_option maxHeartbeats 4000000 in
theorem eout_any (x : Ou) (w : World) : Calls Tryz.prog 18 #[ouV x] w fun e w' => e = .returned (.tuple #[.string (ouT x), .int .i64 (ouE x)]) ∧ Below w.heap.size w w' := by
  have hbd := @ou_bd x
  have HOK : Hid (ouOk x = (wiB x.co 0 999 && wiB x.id 0 1099511627776 && decide (x.su.size ≤ 64))) := rfl
  unfold ouT ouE
  have HB : Hid (ouB x = put x.co.toNat ++ put x.id.toNat ++ ptx x.su) := rfl
  generalize ouB x = R at *
  generalize ouOk x = ok at *
  unfold ouV
  obtain ⟨co, id, su⟩ := x
  simp only at *
  have BA := hid (below_al (Below.refl w.heap.size w) (.cells #[.int .i64 co, .int .i64 id, .string su] 47))
  have ZC : Hid (∀ W, Below (w.alloc (.cells #[.int .i64 co, .int .i64 id, .string su] 47)).heap.size (w.alloc (.cells #[.int .i64 co, .int .i64 id, .string su] 47)) W → (fun w' => w'.cell? ⟨w.heap.size, 0, none⟩ = some (.int .i64 co) ∧ w'.cell? ⟨w.heap.size, 1, none⟩ = some (.int .i64 id) ∧ w'.cell? ⟨w.heap.size, 2, none⟩ = some (.string su)) W) := fun W hW => by
    have q := (srow w [.int .i64 co, .int .i64 id, .string su] 47).keep (hW.keep (fun _ => False)) (fun h => h)
    exact ⟨q.cellAt rfl, q.cellAt rfl, q.cellAt rfl⟩
  obtain ⟨c0, c1, c2⟩ := ZC.out _ (Below.refl _ _)
  have WI := hid (fun a b c W => cwithin_any a b c W)
  cases h1 : wiB co 0 999
  · obtain rfl : ok = false := by rw [HOK.out, h1]; simp
    clear HOK HB hbd ZC
    go_enter Tryz.func18, Tryz.ntmps18
    go_wp2_with fail
    refine (WI.out _ _ _ _).mono ?_
    rintro e w1 ⟨rfl, rfl⟩
    rw [h1]
    go_wp2
    go_ret2
    exact ⟨rfl, BA.out⟩
  cases h2 : wiB id 0 1099511627776
  · obtain rfl : ok = false := by rw [HOK.out, h2]; simp
    clear HOK HB hbd ZC
    go_enter Tryz.func18, Tryz.ntmps18
    go_wp2_with fail
    refine (WI.out _ _ _ _).mono ?_
    rintro e w1 ⟨rfl, rfl⟩
    rw [h1]
    go_wp2_with fail
    refine (WI.out _ _ _ _).mono ?_
    rintro e w2 ⟨rfl, rfl⟩
    rw [h2]
    go_wp2
    go_ret2
    exact ⟨rfl, BA.out⟩
  by_cases h3 : 64 < su.size
  · obtain rfl : ok = false := by rw [HOK.out, decide_eq_false (show ¬ su.size ≤ 64 by omega)]; simp
    have h3i : (64 : Int) < (su.size : Int) := by omega
    clear HOK HB hbd ZC
    go_enter Tryz.func18, Tryz.ntmps18
    go_wp2_with fail
    refine (WI.out _ _ _ _).mono ?_
    rintro e w1 ⟨rfl, rfl⟩
    rw [h1]
    go_wp2_with fail
    refine (WI.out _ _ _ _).mono ?_
    rintro e w2 ⟨rfl, rfl⟩
    rw [h2]
    go_wp2
    go_ret2
    exact ⟨rfl, BA.out⟩
  obtain rfl : ok = true := by rw [HOK.out, h1, h2, decide_eq_true (show su.size ≤ 64 by omega)]; rfl
  obtain ⟨k1, k2, k3, k4, k5⟩ := hbd rfl
  have h3i : ¬ (64 : Int) < (su.size : Int) := by omega
  have K1 : Hid (∀ W, Below (w.alloc (.cells #[.int .i64 co, .int .i64 id, .string su] 47)).heap.size (w.alloc (.cells #[.int .i64 co, .int .i64 id, .string su] 47)) W → Calls Tryz.prog 50 #[.int .i64 co] W fun e w' => e = .returned (.string ⟨(put co.toNat).toArray⟩) ∧ Below W.heap.size W w') := fun W hW => by
    have := cnumber_any co.toNat W (by omega)
    rwa [show ((co.toNat : Nat) : Int) = co by omega] at this
  have K2 : Hid (∀ W, Below (w.alloc (.cells #[.int .i64 co, .int .i64 id, .string su] 47)).heap.size (w.alloc (.cells #[.int .i64 co, .int .i64 id, .string su] 47)) W → Calls Tryz.prog 50 #[.int .i64 id] W fun e w' => e = .returned (.string ⟨(put id.toNat).toArray⟩) ∧ Below W.heap.size W w') := fun W hW => by
    have := cnumber_any id.toNat W (by omega)
    rwa [show ((id.toNat : Nat) : Int) = id by omega] at this
  have K3 : Hid (∀ W, Below (w.alloc (.cells #[.int .i64 co, .int .i64 id, .string su] 47)).heap.size (w.alloc (.cells #[.int .i64 co, .int .i64 id, .string su] 47)) W → Calls Tryz.prog 51 #[.string su] W fun e w' => e = .returned (.string ⟨(ptx su).toArray⟩) ∧ Below W.heap.size W w') := fun W hW => text_any su W (Nat.le_trans k5 (by decide))
  have q1 := fun W => add_ls (put co.toNat) (put id.toNat) W (by have := (put_len co.toNat).2; have := (put_len id.toNat).2; omega)
  have q2 := fun W => add_ls (put co.toNat ++ put id.toNat) (ptx su) W (by have := (put_len co.toNat).2; have := (put_len id.toNat).2; have := ptx_len su; have := (put_len su.size).2; rw [List.length_append]; omega)
  rw [← HB.out] at q2
  generalize put co.toNat ++ put id.toNat = Y1 at *
  generalize put co.toNat = X1 at *
  generalize put id.toNat = X2 at *
  generalize ptx su = X3 at *
  clear HOK HB hbd k1 k2 k3 k4 k5 h3
  go_enter Tryz.func18, Tryz.ntmps18
  go_wp2_with fail
  refine (WI.out _ _ _ _).mono ?_
  rintro e w1 ⟨rfl, rfl⟩
  rw [h1]
  go_wp2_with fail
  refine (WI.out _ _ _ _).mono ?_
  rintro e w2 ⟨rfl, rfl⟩
  rw [h2]
  go_upto_region 3 with fail
  clear c0 c1 c2
  generalize (w.alloc (.cells #[.int .i64 co, .int .i64 id, .string su] 47)) = X at *
  have B0 := hid (Below.refl X.heap.size X).drew
  refine wp_region_held_drew (S := (fun w' => w'.cell? ⟨w.heap.size, 0, none⟩ = some (.int .i64 co) ∧ w'.cell? ⟨w.heap.size, 1, none⟩ = some (.int .i64 id) ∧ w'.cell? ⟨w.heap.size, 2, none⟩ = some (.string su))) (by kernel_rfl) (ZC.out _ B0.out) (fun hHeld => ?_)
  refine wpAnyH_take (i := 0) (v := ?vv1) rfl (by kernel_rfl) (by kernel_rfl) (by kernel_rfl) (fun _ _ _ h => h) (Or.inl ⟨by rfl, ?hy1⟩) (by assumption) ?rest1
  case hy1 => (intro w hSw; (try dsimp only at hSw); go_simp; first | done | with_reducible rfl)
  try simp only [Act.put, List.getElem_toArray, List.getElem_cons_succ, List.getElem_cons_zero, List.setIfInBounds_toArray, List.set_cons_zero, List.set_cons_succ]
  refine wpAnyH_take (i := 1) (v := ?vv2) rfl (by kernel_rfl) (by kernel_rfl) (by kernel_rfl) (fun _ _ _ h => h) (Or.inl ⟨by rfl, ?hy2⟩) (by assumption) ?rest2
  case hy2 => (intro w hSw; (try dsimp only at hSw); go_simp; first | done | with_reducible rfl)
  try simp only [Act.put, List.getElem_toArray, List.getElem_cons_succ, List.getElem_cons_zero, List.setIfInBounds_toArray, List.set_cons_zero, List.set_cons_succ]
  refine wpAnyH_take (i := 3) (v := ?vv3) rfl (by kernel_rfl) (by kernel_rfl) (by kernel_rfl) (fun _ _ _ h => h) (Or.inl ⟨by rfl, ?hy3⟩) (by assumption) ?rest3
  case hy3 => (intro w hSw; (try dsimp only at hSw); go_simp; first | done | with_reducible rfl)
  try simp only [Act.put, List.getElem_toArray, List.getElem_cons_succ, List.getElem_cons_zero, List.setIfInBounds_toArray, List.set_cons_zero, List.set_cons_succ]
  refine wpAnyH_take (i := 4) (v := ?vv4) rfl (by kernel_rfl) (by kernel_rfl) (by kernel_rfl) (fun _ _ _ h => h) (Or.inl ⟨by rfl, ?hy4⟩) (by assumption) ?rest4
  case hy4 => (intro w hSw; (try dsimp only at hSw); go_simp; first | done | with_reducible rfl)
  try simp only [Act.put, List.getElem_toArray, List.getElem_cons_succ, List.getElem_cons_zero, List.setIfInBounds_toArray, List.set_cons_zero, List.set_cons_succ]
  refine wpAnyH_take (i := 7) (v := ?vv5) rfl (by kernel_rfl) (by kernel_rfl) (by kernel_rfl) (fun _ _ _ h => h) (Or.inl ⟨by rfl, ?hy5⟩) (by assumption) ?rest5
  case hy5 => (intro w hSw; (try dsimp only at hSw); go_simp; first | done | with_reducible rfl)
  try simp only [Act.put, List.getElem_toArray, List.getElem_cons_succ, List.getElem_cons_zero, List.setIfInBounds_toArray, List.set_cons_zero, List.set_cons_succ]
  refine wpAnyH_take (i := 8) (v := ?vv6) rfl (by kernel_rfl) (by kernel_rfl) (by kernel_rfl) (fun _ _ _ h => h) (Or.inl ⟨by rfl, ?hy6⟩) (by assumption) ?rest6
  case hy6 => (intro w hSw; (try dsimp only at hSw); go_simp; first | done | with_reducible rfl)
  try simp only [Act.put, List.getElem_toArray, List.getElem_cons_succ, List.getElem_cons_zero, List.setIfInBounds_toArray, List.set_cons_zero, List.set_cons_succ]
  refine wpAnyH_ready (rs := [2]) (by kernel_rfl) (by simp) ?_
  refine AllReadyH.cons rfl (fun K hK => ?_) AllReadyH.nil
  go_simp
  refine (K1.out _ B0.out).mono ?_
  rintro e wq1 ⟨rfl, bq⟩
  have BQ1 := hid (below_on B0.out bq)
  clear bq hHeld
  go_wp2_with fail
  refine hK.out _ _ (ZC.out _ BQ1.out) (fun hHeld => ?_)
  clear hK K
  try simp only [Act.put, List.getElem_toArray, List.getElem_cons_succ, List.getElem_cons_zero, List.setIfInBounds_toArray, List.set_cons_zero, List.set_cons_succ]
  refine wpAnyH_ready (rs := [5]) (by kernel_rfl) (by simp) ?_
  refine AllReadyH.cons rfl (fun K hK => ?_) AllReadyH.nil
  go_simp
  refine (K2.out _ BQ1.out).mono ?_
  rintro e wq2 ⟨rfl, bq⟩
  have BQ2 := hid (below_on BQ1.out bq)
  clear bq hHeld
  go_wp2_with fail
  refine hK.out _ _ (ZC.out _ BQ2.out) (fun hHeld => ?_)
  clear hK K
  try simp only [Act.put, List.getElem_toArray, List.getElem_cons_succ, List.getElem_cons_zero, List.setIfInBounds_toArray, List.set_cons_zero, List.set_cons_succ]
  refine wpAnyH_take (i := 6) (v := ?vv7) rfl (by kernel_rfl) (by kernel_rfl) (by kernel_rfl) (fun _ _ _ h => h) (Or.inl ⟨by rfl, ?hy7⟩) (by assumption) ?rest7
  case hy7 => (intro w hSw; (try dsimp only at hSw); go_simp; first | done | with_reducible rfl)
  try simp only [Act.put, List.getElem_toArray, List.getElem_cons_succ, List.getElem_cons_zero, List.setIfInBounds_toArray, List.set_cons_zero, List.set_cons_succ]
  refine wpAnyH_ready (rs := [9]) (by kernel_rfl) (by simp) ?_
  refine AllReadyH.cons rfl (fun K hK => ?_) AllReadyH.nil
  go_simp
  refine (K3.out _ BQ2.out).mono ?_
  rintro e wq3 ⟨rfl, bq⟩
  have BQ3 := hid (below_on BQ2.out bq)
  clear bq hHeld
  go_wp2_with fail
  refine hK.out _ _ (ZC.out _ BQ3.out) (fun hHeld => ?_)
  clear hK K
  try simp only [Act.put, List.getElem_toArray, List.getElem_cons_succ, List.getElem_cons_zero, List.setIfInBounds_toArray, List.set_cons_zero, List.set_cons_succ]
  refine wpAnyH_take (i := 10) (v := ?vv8) rfl (by kernel_rfl) (by kernel_rfl) (by kernel_rfl) (fun _ _ _ h => h) (Or.inl ⟨by rfl, ?hy8⟩) (by assumption) ?rest8
  case hy8 => (intro w hSw; (try dsimp only at hSw); go_simp; first | done | with_reducible rfl)
  try simp only [Act.put, List.getElem_toArray, List.getElem_cons_succ, List.getElem_cons_zero, List.setIfInBounds_toArray, List.set_cons_zero, List.set_cons_succ]
  refine wpAnyH_take (i := 11) (v := ?vv9) rfl (by kernel_rfl) (by kernel_rfl) (by kernel_rfl) (fun _ _ _ h => h) (Or.inl ⟨by rfl, ?hy9⟩) (by assumption) ?rest9
  case hy9 => (intro w hSw; (try dsimp only at hSw); go_simp; first | done | with_reducible rfl)
  try simp only [Act.put, List.getElem_toArray, List.getElem_cons_succ, List.getElem_cons_zero, List.setIfInBounds_toArray, List.set_cons_zero, List.set_cons_succ]
  refine wpAnyH_take (i := 12) (v := ?vv10) rfl (by kernel_rfl) (by kernel_rfl) (by kernel_rfl) (fun _ _ _ h => h) (Or.inl ⟨by rfl, ?hy10⟩) (by assumption) ?rest10
  case hy10 => (intro w hSw; (try dsimp only at hSw); go_simp; first | done | with_reducible rfl)
  try simp only [Act.put, List.getElem_toArray, List.getElem_cons_succ, List.getElem_cons_zero, List.setIfInBounds_toArray, List.set_cons_zero, List.set_cons_succ]
  refine wpAnyH_done (by kernel_rfl) ?_ _
  go_wp2_with fail
  go_ret2
  exact ⟨rfl, below_on BA.out BQ3.out⟩
theorem rnum16_any (n : Nat) (w : World) (hn : n ≤ 9223372036854775807) : Calls Tryz.prog 52 #[.int .i64 (n : Int)] w fun e w' => e = .returned (.string ⟨(put n).toArray⟩) ∧ Below w.heap.size w w' := by
  have C := hid (ref_number_any n w (by omega))
  have hw : IntKind.u64.wrap (n : Int) = (n : Int) := by rw [IntKind.wrap_u64]; omega
  go_enter Tryz.func52, Tryz.ntmps52
  go_wp2_with fail
  refine C.out.mono ?_
  rintro e w1 ⟨rfl, h1⟩
  have H1 := hid h1
  clear h1 C
  go_wp2
  go_ret
  exact ⟨rfl, H1.out⟩
set_option maxRecDepth 100000 in
set_option maxHeartbeats 4000000 in
theorem reout_any (x : Ou) (w : World) : Calls Tryz.prog 19 #[ouV x] w fun e w' => e = .returned (.tuple #[.string (ouT x), .int .i64 (ouE x)]) ∧ Below w.heap.size w w' := by
  have hbd := @ou_bd x
  have HOK : Hid (ouOk x = (wiB x.co 0 999 && wiB x.id 0 1099511627776 && decide (x.su.size ≤ 64))) := rfl
  unfold ouT ouE
  have HB : Hid (ouB x = put x.co.toNat ++ put x.id.toNat ++ ptx x.su) := rfl
  generalize ouB x = R at *
  generalize ouOk x = ok at *
  unfold ouV
  obtain ⟨co, id, su⟩ := x
  simp only at *
  have BA := hid (below_al (Below.refl w.heap.size w) (.cells #[.int .i64 co, .int .i64 id, .string su] 50))
  have ZC : Hid (∀ W, Below (w.alloc (.cells #[.int .i64 co, .int .i64 id, .string su] 50)).heap.size (w.alloc (.cells #[.int .i64 co, .int .i64 id, .string su] 50)) W → (fun w' => w'.cell? ⟨w.heap.size, 0, none⟩ = some (.int .i64 co) ∧ w'.cell? ⟨w.heap.size, 1, none⟩ = some (.int .i64 id) ∧ w'.cell? ⟨w.heap.size, 2, none⟩ = some (.string su)) W) := fun W hW => by
    have q := (srow w [.int .i64 co, .int .i64 id, .string su] 50).keep (hW.keep (fun _ => False)) (fun h => h)
    exact ⟨q.cellAt rfl, q.cellAt rfl, q.cellAt rfl⟩
  obtain ⟨c0, c1, c2⟩ := ZC.out _ (Below.refl _ _)
  by_cases h0 : co < 0
  · obtain rfl : ok = false := by rw [HOK.out, show wiB co 0 999 = false from by unfold wiB; rw [decide_eq_false (by omega)]; rfl]; simp
    clear HOK HB hbd ZC
    go_enter Tryz.func19, Tryz.ntmps19
    go_wp2
    go_ret2
    exact ⟨rfl, BA.out⟩
  by_cases h1 : 999 < co
  · obtain rfl : ok = false := by rw [HOK.out, show wiB co 0 999 = false from by unfold wiB; rw [decide_eq_false (show ¬ co ≤ 999 by omega)]; simp]; simp
    clear HOK HB hbd ZC
    go_enter Tryz.func19, Tryz.ntmps19
    go_wp2
    go_ret2
    exact ⟨rfl, BA.out⟩
  by_cases h2 : id < 0
  · obtain rfl : ok = false := by rw [HOK.out, show wiB id 0 1099511627776 = false from by unfold wiB; rw [decide_eq_false (show ¬ 0 ≤ id by omega)]; rfl]; simp
    clear HOK HB hbd ZC
    go_enter Tryz.func19, Tryz.ntmps19
    go_wp2
    go_ret2
    exact ⟨rfl, BA.out⟩
  by_cases h4 : 1099511627776 < id
  · obtain rfl : ok = false := by rw [HOK.out, show wiB id 0 1099511627776 = false from by unfold wiB; rw [decide_eq_false (show ¬ id ≤ 1099511627776 by omega)]; simp]; simp
    clear HOK HB hbd ZC
    go_enter Tryz.func19, Tryz.ntmps19
    go_wp2
    go_ret2
    exact ⟨rfl, BA.out⟩
  by_cases h3 : 64 < su.size
  · obtain rfl : ok = false := by rw [HOK.out, decide_eq_false (show ¬ su.size ≤ 64 by omega)]; simp
    have h3i : (64 : Int) < (su.size : Int) := by omega
    clear HOK HB hbd ZC
    go_enter Tryz.func19, Tryz.ntmps19
    go_wp2
    go_ret2
    exact ⟨rfl, BA.out⟩
  have h1' : wiB co 0 999 = true := by unfold wiB; simp; omega
  have h2' : wiB id 0 1099511627776 = true := by unfold wiB; simp; omega
  obtain rfl : ok = true := by rw [HOK.out, h1', h2', decide_eq_true (show su.size ≤ 64 by omega)]; rfl
  obtain ⟨k1, k2, k3, k4, k5⟩ := hbd rfl
  have h3i : ¬ (64 : Int) < (su.size : Int) := by omega
  have K1 : Hid (∀ W, Below (w.alloc (.cells #[.int .i64 co, .int .i64 id, .string su] 50)).heap.size (w.alloc (.cells #[.int .i64 co, .int .i64 id, .string su] 50)) W → Calls Tryz.prog 52 #[.int .i64 co] W fun e w' => e = .returned (.string ⟨(put co.toNat).toArray⟩) ∧ Below W.heap.size W w') := fun W hW => by
    have := rnum16_any co.toNat W (by omega)
    rwa [show ((co.toNat : Nat) : Int) = co by omega] at this
  have K2 : Hid (∀ W, Below (w.alloc (.cells #[.int .i64 co, .int .i64 id, .string su] 50)).heap.size (w.alloc (.cells #[.int .i64 co, .int .i64 id, .string su] 50)) W → Calls Tryz.prog 52 #[.int .i64 id] W fun e w' => e = .returned (.string ⟨(put id.toNat).toArray⟩) ∧ Below W.heap.size W w') := fun W hW => by
    have := rnum16_any id.toNat W (by omega)
    rwa [show ((id.toNat : Nat) : Int) = id by omega] at this
  have K3 : Hid (∀ W, Below (w.alloc (.cells #[.int .i64 co, .int .i64 id, .string su] 50)).heap.size (w.alloc (.cells #[.int .i64 co, .int .i64 id, .string su] 50)) W → Calls Tryz.prog 53 #[.string su] W fun e w' => e = .returned (.string ⟨(ptx su).toArray⟩) ∧ Below W.heap.size W w') := fun W hW => ref_text_any su W (Nat.le_trans k5 (by decide))
  have q1 := fun W => add_ls (put co.toNat) (put id.toNat) W (by have := (put_len co.toNat).2; have := (put_len id.toNat).2; omega)
  have q2 := fun W => add_ls (put co.toNat ++ put id.toNat) (ptx su) W (by have := (put_len co.toNat).2; have := (put_len id.toNat).2; have := ptx_len su; have := (put_len su.size).2; rw [List.length_append]; omega)
  rw [← HB.out] at q2
  generalize put co.toNat ++ put id.toNat = Y1 at *
  generalize put co.toNat = X1 at *
  generalize put id.toNat = X2 at *
  generalize ptx su = X3 at *
  clear HOK HB hbd k1 k2 k3 k4 k5 h3
  go_enter Tryz.func19, Tryz.ntmps19
  go_upto_region 3 with fail
  clear c0 c1 c2
  generalize (w.alloc (.cells #[.int .i64 co, .int .i64 id, .string su] 50)) = X at *
  have B0 := hid (Below.refl X.heap.size X).drew
  refine wp_region_held_drew (S := (fun w' => w'.cell? ⟨w.heap.size, 0, none⟩ = some (.int .i64 co) ∧ w'.cell? ⟨w.heap.size, 1, none⟩ = some (.int .i64 id) ∧ w'.cell? ⟨w.heap.size, 2, none⟩ = some (.string su))) (by kernel_rfl) (ZC.out _ B0.out) (fun hHeld => ?_)
  refine wpAnyH_take (i := 0) (v := ?vv11) rfl (by kernel_rfl) (by kernel_rfl) (by kernel_rfl) (fun _ _ _ h => h) (Or.inl ⟨by rfl, ?hy11⟩) (by assumption) ?rest11
  case hy11 => (intro w hSw; (try dsimp only at hSw); go_simp; first | done | with_reducible rfl)
  try simp only [Act.put, List.getElem_toArray, List.getElem_cons_succ, List.getElem_cons_zero, List.setIfInBounds_toArray, List.set_cons_zero, List.set_cons_succ]
  refine wpAnyH_take (i := 1) (v := ?vv12) rfl (by kernel_rfl) (by kernel_rfl) (by kernel_rfl) (fun _ _ _ h => h) (Or.inl ⟨by rfl, ?hy12⟩) (by assumption) ?rest12
  case hy12 => (intro w hSw; (try dsimp only at hSw); go_simp; first | done | with_reducible rfl)
  try simp only [Act.put, List.getElem_toArray, List.getElem_cons_succ, List.getElem_cons_zero, List.setIfInBounds_toArray, List.set_cons_zero, List.set_cons_succ]
  refine wpAnyH_take (i := 3) (v := ?vv13) rfl (by kernel_rfl) (by kernel_rfl) (by kernel_rfl) (fun _ _ _ h => h) (Or.inl ⟨by rfl, ?hy13⟩) (by assumption) ?rest13
  case hy13 => (intro w hSw; (try dsimp only at hSw); go_simp; first | done | with_reducible rfl)
  try simp only [Act.put, List.getElem_toArray, List.getElem_cons_succ, List.getElem_cons_zero, List.setIfInBounds_toArray, List.set_cons_zero, List.set_cons_succ]
  refine wpAnyH_take (i := 4) (v := ?vv14) rfl (by kernel_rfl) (by kernel_rfl) (by kernel_rfl) (fun _ _ _ h => h) (Or.inl ⟨by rfl, ?hy14⟩) (by assumption) ?rest14
  case hy14 => (intro w hSw; (try dsimp only at hSw); go_simp; first | done | with_reducible rfl)
  try simp only [Act.put, List.getElem_toArray, List.getElem_cons_succ, List.getElem_cons_zero, List.setIfInBounds_toArray, List.set_cons_zero, List.set_cons_succ]
  refine wpAnyH_take (i := 7) (v := ?vv15) rfl (by kernel_rfl) (by kernel_rfl) (by kernel_rfl) (fun _ _ _ h => h) (Or.inl ⟨by rfl, ?hy15⟩) (by assumption) ?rest15
  case hy15 => (intro w hSw; (try dsimp only at hSw); go_simp; first | done | with_reducible rfl)
  try simp only [Act.put, List.getElem_toArray, List.getElem_cons_succ, List.getElem_cons_zero, List.setIfInBounds_toArray, List.set_cons_zero, List.set_cons_succ]
  refine wpAnyH_take (i := 8) (v := ?vv16) rfl (by kernel_rfl) (by kernel_rfl) (by kernel_rfl) (fun _ _ _ h => h) (Or.inl ⟨by rfl, ?hy16⟩) (by assumption) ?rest16
  case hy16 => (intro w hSw; (try dsimp only at hSw); go_simp; first | done | with_reducible rfl)
  try simp only [Act.put, List.getElem_toArray, List.getElem_cons_succ, List.getElem_cons_zero, List.setIfInBounds_toArray, List.set_cons_zero, List.set_cons_succ]
  refine wpAnyH_ready (rs := [2]) (by kernel_rfl) (by simp) ?_
  refine AllReadyH.cons rfl (fun K hK => ?_) AllReadyH.nil
  go_simp
  refine (K1.out _ B0.out).mono ?_
  rintro e wq4 ⟨rfl, bq⟩
  have BQ4 := hid (below_on B0.out bq)
  clear bq hHeld
  go_wp2_with fail
  refine hK.out _ _ (ZC.out _ BQ4.out) (fun hHeld => ?_)
  clear hK K
  try simp only [Act.put, List.getElem_toArray, List.getElem_cons_succ, List.getElem_cons_zero, List.setIfInBounds_toArray, List.set_cons_zero, List.set_cons_succ]
  refine wpAnyH_ready (rs := [5]) (by kernel_rfl) (by simp) ?_
  refine AllReadyH.cons rfl (fun K hK => ?_) AllReadyH.nil
  go_simp
  refine (K2.out _ BQ4.out).mono ?_
  rintro e wq5 ⟨rfl, bq⟩
  have BQ5 := hid (below_on BQ4.out bq)
  clear bq hHeld
  go_wp2_with fail
  refine hK.out _ _ (ZC.out _ BQ5.out) (fun hHeld => ?_)
  clear hK K
  try simp only [Act.put, List.getElem_toArray, List.getElem_cons_succ, List.getElem_cons_zero, List.setIfInBounds_toArray, List.set_cons_zero, List.set_cons_succ]
  refine wpAnyH_take (i := 6) (v := ?vv17) rfl (by kernel_rfl) (by kernel_rfl) (by kernel_rfl) (fun _ _ _ h => h) (Or.inl ⟨by rfl, ?hy17⟩) (by assumption) ?rest17
  case hy17 => (intro w hSw; (try dsimp only at hSw); go_simp; first | done | with_reducible rfl)
  try simp only [Act.put, List.getElem_toArray, List.getElem_cons_succ, List.getElem_cons_zero, List.setIfInBounds_toArray, List.set_cons_zero, List.set_cons_succ]
  refine wpAnyH_ready (rs := [9]) (by kernel_rfl) (by simp) ?_
  refine AllReadyH.cons rfl (fun K hK => ?_) AllReadyH.nil
  go_simp
  refine (K3.out _ BQ5.out).mono ?_
  rintro e wq6 ⟨rfl, bq⟩
  have BQ6 := hid (below_on BQ5.out bq)
  clear bq hHeld
  go_wp2_with fail
  refine hK.out _ _ (ZC.out _ BQ6.out) (fun hHeld => ?_)
  clear hK K
  try simp only [Act.put, List.getElem_toArray, List.getElem_cons_succ, List.getElem_cons_zero, List.setIfInBounds_toArray, List.set_cons_zero, List.set_cons_succ]
  refine wpAnyH_take (i := 10) (v := ?vv18) rfl (by kernel_rfl) (by kernel_rfl) (by kernel_rfl) (fun _ _ _ h => h) (Or.inl ⟨by rfl, ?hy18⟩) (by assumption) ?rest18
  case hy18 => (intro w hSw; (try dsimp only at hSw); go_simp; first | done | with_reducible rfl)
  try simp only [Act.put, List.getElem_toArray, List.getElem_cons_succ, List.getElem_cons_zero, List.setIfInBounds_toArray, List.set_cons_zero, List.set_cons_succ]
  refine wpAnyH_take (i := 11) (v := ?vv19) rfl (by kernel_rfl) (by kernel_rfl) (by kernel_rfl) (fun _ _ _ h => h) (Or.inl ⟨by rfl, ?hy19⟩) (by assumption) ?rest19
  case hy19 => (intro w hSw; (try dsimp only at hSw); go_simp; first | done | with_reducible rfl)
  try simp only [Act.put, List.getElem_toArray, List.getElem_cons_succ, List.getElem_cons_zero, List.setIfInBounds_toArray, List.set_cons_zero, List.set_cons_succ]
  refine wpAnyH_take (i := 12) (v := ?vv20) rfl (by kernel_rfl) (by kernel_rfl) (by kernel_rfl) (fun _ _ _ h => h) (Or.inl ⟨by rfl, ?hy20⟩) (by assumption) ?rest20
  case hy20 => (intro w hSw; (try dsimp only at hSw); go_simp; first | done | with_reducible rfl)
  try simp only [Act.put, List.getElem_toArray, List.getElem_cons_succ, List.getElem_cons_zero, List.setIfInBounds_toArray, List.set_cons_zero, List.set_cons_succ]
  refine wpAnyH_done (by kernel_rfl) ?_ _
  go_wp2_with fail
  go_ret2
  exact ⟨rfl, below_on BA.out BQ6.out⟩
end Go.Proofs.YtikkpfchbcfhlaaGreat
namespace Go.Proofs.YtikkpfchbcfhlaaGreat
open Go.RowKit Go.Maps
set_option linter.unusedVariables false
set_option linter.unusedSimpArgs false

theorem o3_fin {w W : World} {t : TypeId} (co id : Int) (su : ByteArray) (h : RowIs W w.heap.size [.int .i64 0, .int .i64 0, .string ⟨#[]⟩] t) (b : Below w.heap.size w W) : RowIs (((W.setCell ⟨w.heap.size, 0, none⟩ (.int .i64 co)).setCell ⟨w.heap.size, 1, none⟩ (.int .i64 id)).setCell ⟨w.heap.size, 2, none⟩ (.string su)) w.heap.size [.int .i64 co, .int .i64 id, .string su] t ∧ Below w.heap.size w (((W.setCell ⟨w.heap.size, 0, none⟩ (.int .i64 co)).setCell ⟨w.heap.size, 1, none⟩ (.int .i64 id)).setCell ⟨w.heap.size, 2, none⟩ (.string su)) :=
  ⟨((h.set 0 _).set 1 _).set 2 _, b.trans (keep_below (((keep_setCell W _ 0 _).trans (keep_setCell _ _ 1 _)).trans (keep_setCell _ _ 2 _)) (fun j hj e => by omega) b.size)⟩
structure OdS (w : World) (s : ByteArray) (a e : Int) (W : World) : Prop where
  rd : RdAt W (w.heap.size + 1) s a e
  rs : RowIs W w.heap.size [.int .i64 0, .int .i64 0, .string ⟨#[]⟩] 47
  bl : Below w.heap.size w W
theorem OdS.read {w W W' : World} {s : ByteArray} {a e a' e' : Int} (x : OdS w s a e W) (hr : RdAt W' (w.heap.size + 1) s a' e') (ho : Only (w.heap.size + 1) W W') : OdS w s a' e' W' :=
  ⟨hr, x.rs.keep ho.keep (by omega), x.bl.trans (ho.below (by omega) x.bl.size)⟩
theorem OdS.al {w W : World} {s : ByteArray} {a e : Int} (x : OdS w s a e W) (o : Obj) : OdS w s a e (W.alloc o) :=
  have B := below_al (Below.refl W.heap.size W) o
  x.read (x.rd.keeps B) (B.only _)
set_option maxRecDepth 100000 in
set_option maxHeartbeats 4000000 in
theorem dout_any (s : ByteArray) (w : World) (hs : s.size ≤ 140737488355328) : Calls Tryz.prog 20 #[.string s] w fun q w' => q = .returned (.tuple #[ouV (odV s), .int .i64 (odE s)]) ∧ Below w.heap.size w w' := by
  have hsm : s.size ≤ maxLen := by unfold maxLen; omega
  have NW : Hid (Calls Tryz.prog 41 #[.string s] (w.alloc (.cells #[.int .i64 0, .int .i64 0, .string ⟨#[]⟩] 47)) fun e w' => e = .returned (.pointer (some ⟨w.heap.size + 1, 0, none⟩)) ∧ OdS w s 0 0 w') := by
    have := new_reader s (w.alloc (.cells #[.int .i64 0, .int .i64 0, .string ⟨#[]⟩] 47))
    rw [show (w.alloc (.cells #[.int .i64 0, .int .i64 0, .string ⟨#[]⟩] 47)).heap.size = w.heap.size + 1 from by simp] at this
    refine this.mono fun e w' ⟨h1, h2, h3⟩ => ⟨h1, h2, ?_, ?_⟩
    · exact (srow w [.int .i64 0, .int .i64 0, .string ⟨#[]⟩] 47).keep ((by simpa using h3 : Below (w.alloc (.cells #[.int .i64 0, .int .i64 0, .string ⟨#[]⟩] 47)).heap.size (w.alloc (.cells #[.int .i64 0, .int .i64 0, .string ⟨#[]⟩] 47)) w').keep (fun _ => False)) (fun h => h)
    · exact below_on (below_al (Below.refl w.heap.size w) (.cells #[.int .i64 0, .int .i64 0, .string ⟨#[]⟩] 47)) (by simpa using h3)
  have RI : Hid (∀ (m a e : Int) (W : World), RdAt W (w.heap.size + 1) s a e → m ≤ 9223372036854775807 → Calls Tryz.prog 54 #[.pointer (some ⟨w.heap.size + 1, 0, none⟩), .int .i64 m] W fun r w' => r = .returned (.int .i64 (dcN s m a e).n) ∧ RdAt w' (w.heap.size + 1) s (dcN s m a e).a (dcN s m a e).e ∧ Only (w.heap.size + 1) W w') := fun m a e W h hm => rd_int _ s a e m W h hsm hm (nS_int s a e m hm)
  have RT : Hid (∀ (a e : Int) (W : World), RdAt W (w.heap.size + 1) s a e → Calls Tryz.prog 55 #[.pointer (some ⟨w.heap.size + 1, 0, none⟩), .int .i64 64] W fun r w' => r = .returned (.string (tS s a e 64).x) ∧ RdAt w' (w.heap.size + 1) s (tS s a e 64).a (tS s a e 64).e ∧ Only (w.heap.size + 1) W w') := fun a e W h => rd_text _ s a e 64 W h hs
  have RE : Hid (∀ a e W, RdAt W (w.heap.size + 1) s a e → Calls Tryz.prog 43 #[.pointer (some ⟨w.heap.size + 1, 0, none⟩)] W fun r w' => r = .returned (.int .i64 (endE s a e)) ∧ RdAt w' (w.heap.size + 1) s a (endE s a e) ∧ Only (w.heap.size + 1) W w') := fun a e W h => rd_end _ s a e W h
  have R1 := hid (fun W h => RI.out 999 0 0 W h (by omega))
  have R2 := hid (fun W h => RI.out 1099511627776 (dcN s 999 0 0).a (dcN s 999 0 0).e W h (by omega))
  have R3 := hid (RT.out (dcN s 1099511627776 (dcN s 999 0 0).a (dcN s 999 0 0).e).a (dcN s 1099511627776 (dcN s 999 0 0).a (dcN s 999 0 0).e).e)
  have R4 := hid (RE.out (rdO s).a (rdO s).e)
  have HOK : Hid (odOk s = (endE s (rdO s).a (rdO s).e == 0)) := rfl
  have HD : Hid (odV s = (if odOk s = true then (rdO s).o else ou0) ∧ odE s = (if odOk s = true then 0 else 3)) := ⟨rfl, rfl⟩
  have HRD : Hid (rdO s = ⟨(tS s (dcN s 1099511627776 (dcN s 999 0 0).a (dcN s 999 0 0).e).a (dcN s 1099511627776 (dcN s 999 0 0).a (dcN s 999 0 0).e).e 64).a, (tS s (dcN s 1099511627776 (dcN s 999 0 0).a (dcN s 999 0 0).e).a (dcN s 1099511627776 (dcN s 999 0 0).a (dcN s 999 0 0).e).e 64).e, ⟨((dcN s 999 0 0).n : Int), ((dcN s 1099511627776 (dcN s 999 0 0).a (dcN s 999 0 0).e).n : Int), (tS s (dcN s 1099511627776 (dcN s 999 0 0).a (dcN s 999 0 0).e).a (dcN s 1099511627776 (dcN s 999 0 0).a (dcN s 999 0 0).e).e 64).x⟩⟩) := rfl
  clear RI RT RE hs hsm
  generalize odV s = DV at *
  generalize odE s = DE at *
  generalize odOk s = OK at *
  generalize rdO s = R at *
  generalize tS s (dcN s 1099511627776 (dcN s 999 0 0).a (dcN s 999 0 0).e).a (dcN s 1099511627776 (dcN s 999 0 0).a (dcN s 999 0 0).e).e 64 = TX at *
  generalize dcN s 1099511627776 (dcN s 999 0 0).a (dcN s 999 0 0).e = D2 at *
  generalize dcN s 999 0 0 = D1 at *
  obtain ⟨a1, e1, n1⟩ := D1
  obtain ⟨a2, e2, n2⟩ := D2
  obtain ⟨a3, e3, su⟩ := TX
  have hR : R = ⟨a3, e3, ⟨(n1 : Int), (n2 : Int), su⟩⟩ := HRD.out
  subst hR
  clear HRD
  simp only at *
  generalize endE s a3 e3 = en at *
  unfold ouV
  go_enter Tryz.func20, Tryz.ntmps20
  go_wp2_with fail
  refine NW.out.mono ?_
  rintro q1 w1 ⟨rfl, s1⟩
  have S1 := hid s1
  clear NW s1
  go_wp2_with fail
  refine (R1.out _ S1.out.rd).mono ?_
  rintro q2 w2 ⟨rfl, h2, o2⟩
  have S2 := hid (S1.out.read h2 o2)
  clear R1 S1 h2 o2
  go_wp2_with fail
  refine (R2.out _ S2.out.rd).mono ?_
  rintro q3 w3 ⟨rfl, h3, o3⟩
  have S3 := hid (S2.out.read h3 o3)
  clear R2 S2 h3 o3
  go_wp2_with fail
  refine (R3.out _ S3.out.rd).mono ?_
  rintro q4 w4 ⟨rfl, h4, o4⟩
  have S4 := hid ((S3.out.read h4 o4).al (.cells #[.int .i64 (n1 : Int), .int .i64 (n2 : Int), .string su] 47))
  have B4 := hid (srow w4 [.int .i64 (n1 : Int), .int .i64 (n2 : Int), .string su] 47)
  have HL : Hid (w.heap.size + 1 < w4.heap.size) := rd_lt h4
  clear R3 S3 h4 o4
  go_wp2_with fail
  generalize w4.alloc (.cells #[.int .i64 (n1 : Int), .int .i64 (n2 : Int), .string su] 47) = V at *
  refine (R4.out _ S4.out.rd).mono ?_
  rintro q5 w5 ⟨rfl, h5, o5⟩
  have S5 := hid (S4.out.read h5 o5)
  have B5 := hid (B4.out.keep o5.keep (by have := HL.out; omega))
  clear R4 S4 B4 h5 o5
  have d0 := S5.out.rs.cellAt (o := 0) rfl
  have d1 := S5.out.rs.cellAt (o := 1) rfl
  have d2 := S5.out.rs.cellAt (o := 2) rfl
  have f0 : w5.frozen? ⟨w.heap.size, 0, none⟩ = false := S5.out.rs.frozen
  have f1 : w5.frozen? ⟨w.heap.size, 1, none⟩ = false := S5.out.rs.frozen
  have f2 : w5.frozen? ⟨w.heap.size, 2, none⟩ = false := S5.out.rs.frozen
  by_cases hen : en = 0
  · subst hen
    obtain rfl : OK = true := HOK.out
    obtain ⟨rfl, rfl⟩ := HD.out
    have c0 := B5.out.cellAt (o := 0) rfl
    have c1 := B5.out.cellAt (o := 1) rfl
    have c2 := B5.out.cellAt (o := 2) rfl
    have HNE : w.heap.size ≠ w4.heap.size := by have := HL.out; omega
    have HNE2 : w4.heap.size ≠ w.heap.size := fun h => HNE h.symm
    have FB := hid (o3_fin (n1 : Int) (n2 : Int) su S5.out.rs S5.out.bl)
    clear S5 B5 HL
    go_wp2
    exact bodyPost_ret (ret_ct16 (p := 2) (u := 3) rfl _ _ w.heap.size #[.int .i64 (n1 : Int), .int .i64 (n2 : Int), .string su] (.int .i64 0) rfl rfl (run_loadVar_row _ _ _ _ _ _ _ FB.out.1 Tryz.underlying47 rfl (by kernel_rfl))) rfl ⟨rfl, FB.out.2⟩
  · have hq : (en == 0) = false := beq_eq_false_iff_ne.2 hen
    have hq2 : (en != 0) = true := by simp [hen]
    obtain rfl : OK = false := by have := HOK.out; rw [hq] at this; exact this
    obtain ⟨rfl, rfl⟩ := HD.out
    have FB := hid (o3_fin 0 0 ⟨#[]⟩ S5.out.rs S5.out.bl)
    clear S5 B5 HL hen
    go_wp2
    exact bodyPost_ret (ret_ct16 (p := 2) (u := 3) rfl _ _ w.heap.size #[.int .i64 0, .int .i64 0, .string ⟨#[]⟩] (.int .i64 3) rfl rfl (run_loadVar_row _ _ _ _ _ _ _ FB.out.1 Tryz.underlying47 rfl (by kernel_rfl))) rfl ⟨rfl, FB.out.2⟩
structure RoS (w : World) (W : World) : Prop where
  rs : RowIs W w.heap.size [.int .i64 0, .int .i64 0, .string ⟨#[]⟩] 50
  bl : Below w.heap.size w W
theorem RoS.next {w W W' : World} (x : RoS w W) (hb : Below W.heap.size W W') : RoS w W' := ⟨x.rs.keep (hb.keep (fun _ => False)) (fun h => h), below_on x.bl hb⟩
set_option maxRecDepth 100000 in
set_option maxHeartbeats 4000000 in
theorem rdout_any (s : ByteArray) (w : World) (hs : s.size ≤ 140737488355328) : Calls Tryz.prog 21 #[.string s] w fun q w' => q = .returned (.tuple #[ouV (odV s), .int .i64 (odE s)]) ∧ Below w.heap.size w w' := by
  have hsm : s.size ≤ maxLen := by unfold maxLen; omega
  have RI : Hid (∀ (m a e : Int) (W : World), m ≤ 9223372036854775807 → Calls Tryz.prog 44 #[.agg #[.string s, .int .i64 a, .int .i64 e], .int .i64 m] W fun r w' => r = .returned (.tuple #[.agg #[.string s, .int .i64 (dcN s m a e).a, .int .i64 (dcN s m a e).e], .int .i64 (dcN s m a e).n]) ∧ Below W.heap.size W w') := fun m a e W hm => ref_reader_int s a e m W hsm hm (nS_int s a e m hm)
  have RT : Hid (∀ (a e : Int) (W : World), Calls Tryz.prog 45 #[.agg #[.string s, .int .i64 a, .int .i64 e], .int .i64 64] W fun r w' => r = .returned (.tuple #[.agg #[.string s, .int .i64 (tS s a e 64).a, .int .i64 (tS s a e 64).e], .string (tS s a e 64).x]) ∧ Below W.heap.size W w') := fun a e W => ref_reader_text s a e 64 W hs
  have R1 := hid (fun W => RI.out 999 0 0 W (by omega))
  have R2 := hid (fun W => RI.out 1099511627776 (dcN s 999 0 0).a (dcN s 999 0 0).e W (by omega))
  have R3 := hid (RT.out (dcN s 1099511627776 (dcN s 999 0 0).a (dcN s 999 0 0).e).a (dcN s 1099511627776 (dcN s 999 0 0).a (dcN s 999 0 0).e).e)
  have R4 := hid (fun W => ref_reader_end s (rdO s).a (rdO s).e W)
  have HOK : Hid (odOk s = (endE s (rdO s).a (rdO s).e == 0)) := rfl
  have HD : Hid (odV s = (if odOk s = true then (rdO s).o else ou0) ∧ odE s = (if odOk s = true then 0 else 3)) := ⟨rfl, rfl⟩
  have HRD : Hid (rdO s = ⟨(tS s (dcN s 1099511627776 (dcN s 999 0 0).a (dcN s 999 0 0).e).a (dcN s 1099511627776 (dcN s 999 0 0).a (dcN s 999 0 0).e).e 64).a, (tS s (dcN s 1099511627776 (dcN s 999 0 0).a (dcN s 999 0 0).e).a (dcN s 1099511627776 (dcN s 999 0 0).a (dcN s 999 0 0).e).e 64).e, ⟨((dcN s 999 0 0).n : Int), ((dcN s 1099511627776 (dcN s 999 0 0).a (dcN s 999 0 0).e).n : Int), (tS s (dcN s 1099511627776 (dcN s 999 0 0).a (dcN s 999 0 0).e).a (dcN s 1099511627776 (dcN s 999 0 0).a (dcN s 999 0 0).e).e 64).x⟩⟩) := rfl
  clear RI RT hs hsm
  generalize odV s = DV at *
  generalize odE s = DE at *
  generalize odOk s = OK at *
  generalize rdO s = R at *
  generalize tS s (dcN s 1099511627776 (dcN s 999 0 0).a (dcN s 999 0 0).e).a (dcN s 1099511627776 (dcN s 999 0 0).a (dcN s 999 0 0).e).e 64 = TX at *
  generalize dcN s 1099511627776 (dcN s 999 0 0).a (dcN s 999 0 0).e = D2 at *
  generalize dcN s 999 0 0 = D1 at *
  obtain ⟨a1, e1, n1⟩ := D1
  obtain ⟨a2, e2, n2⟩ := D2
  obtain ⟨a3, e3, su⟩ := TX
  have hR : R = ⟨a3, e3, ⟨(n1 : Int), (n2 : Int), su⟩⟩ := HRD.out
  subst hR
  clear HRD
  simp only at *
  generalize endE s a3 e3 = en at *
  unfold ouV
  have S0 : Hid (RoS w (w.alloc (.cells #[.int .i64 0, .int .i64 0, .string ⟨#[]⟩] 50))) := ⟨srow w _ _, below_al (Below.refl _ _) _⟩
  go_enter Tryz.func21, Tryz.ntmps21
  go_wp2_with fail
  refine (R1.out _).mono ?_
  rintro q1 w1 ⟨rfl, b1⟩
  have S1 := hid ((S0.out.next b1).next (below_al (Below.refl _ _) (.cells #[.string s, .int .i64 a1, .int .i64 e1] 79)))
  clear R1 S0 b1
  go_wp2_with fail
  generalize w1.alloc (.cells #[.string s, .int .i64 a1, .int .i64 e1] 79) = V1 at *
  refine (R2.out _).mono ?_
  rintro q2 w2 ⟨rfl, b2⟩
  have S2 := hid ((S1.out.next b2).next (below_al (Below.refl _ _) (.cells #[.string s, .int .i64 a2, .int .i64 e2] 79)))
  clear R2 S1 b2
  go_wp2_with fail
  generalize w2.alloc (.cells #[.string s, .int .i64 a2, .int .i64 e2] 79) = V2 at *
  refine (R3.out _).mono ?_
  rintro q3 w3 ⟨rfl, b3⟩
  have S3 := hid ((S2.out.next b3).next (below_al (Below.refl _ _) (.cells #[.string s, .int .i64 a3, .int .i64 e3] 79)))
  clear R3 S2 b3
  go_wp2_with fail
  generalize w3.alloc (.cells #[.string s, .int .i64 a3, .int .i64 e3] 79) = V3 at *
  refine (R4.out _).mono ?_
  rintro q4 w4 ⟨rfl, b4⟩
  have S5 := hid (S3.out.next b4)
  clear R4 S3 b4
  have d0 := S5.out.rs.cellAt (o := 0) rfl
  have d1 := S5.out.rs.cellAt (o := 1) rfl
  have d2 := S5.out.rs.cellAt (o := 2) rfl
  have f0 : w4.frozen? ⟨w.heap.size, 0, none⟩ = false := S5.out.rs.frozen
  have f1 : w4.frozen? ⟨w.heap.size, 1, none⟩ = false := S5.out.rs.frozen
  have f2 : w4.frozen? ⟨w.heap.size, 2, none⟩ = false := S5.out.rs.frozen
  have hfd : ∀ W : World, (Instr.field 79 (.agg #[.string s, .int .i64 a3, .int .i64 en]) 2).run Tryz.prog W = .ok (.int .i64 en) W := fun _ => by kernel_rfl
  by_cases hen : en = 0
  · subst hen
    obtain rfl : OK = true := HOK.out
    obtain ⟨rfl, rfl⟩ := HD.out
    have FB := hid (o3_fin (n1 : Int) (n2 : Int) su S5.out.rs S5.out.bl)
    clear S5
    go_wp2
    exact bodyPost_ret (ret_ct16 (p := 2) (u := 3) rfl _ _ w.heap.size #[.int .i64 (n1 : Int), .int .i64 (n2 : Int), .string su] (.int .i64 0) rfl rfl (run_loadVar_row _ _ _ _ _ _ _ FB.out.1 Tryz.underlying50 rfl (by kernel_rfl))) rfl ⟨rfl, FB.out.2⟩
  · have hq : (en == 0) = false := beq_eq_false_iff_ne.2 hen
    have hq2 : (en != 0) = true := by simp [hen]
    obtain rfl : OK = false := by have := HOK.out; rw [hq] at this; exact this
    obtain ⟨rfl, rfl⟩ := HD.out
    have FB := hid (o3_fin 0 0 ⟨#[]⟩ S5.out.rs S5.out.bl)
    clear S5 hen
    go_wp2
    exact bodyPost_ret (ret_ct16 (p := 2) (u := 3) rfl _ _ w.heap.size #[.int .i64 0, .int .i64 0, .string ⟨#[]⟩] (.int .i64 3) rfl rfl (run_loadVar_row _ _ _ _ _ _ _ FB.out.1 Tryz.underlying50 rfl (by kernel_rfl))) rfl ⟨rfl, FB.out.2⟩
end Go.Proofs.YtikkpfchbcfhlaaGreat
namespace Go.Proofs.YtikkpfchbcfhlaaGreat
open Go.RowKit Go.Maps
set_option linter.unusedVariables false
set_option linter.unusedSimpArgs false

theorem maxL_of {w : World} (h : w.ShapedOpen Tryz.prog) : MaxL w := containsLaid.s1_3 w h
theorem gnqO : Tryz.prog.eqGuardType Tryz.prog.depth 47 = false := by kernel_rfl
theorem nqO (a b : Int) (X : ByteArray) (W : World) : (binOp .neq 47 (.agg #[.int .i64 a, .int .i64 b, .string X]) (.agg #[.int .i64 a, .int .i64 b, .string X])).run Tryz.prog W = .ok (.bool false) W := by
  have u9 := Tryz.underlying9
  have u3 := Tryz.underlying3
  have z9 := Tryz.sizeOf9
  have z3 := Tryz.sizeOf3
  have a9 := Tryz.isAgg9
  have a3 := Tryz.isAgg3
  have hS : Tryz.prog.underlying 47 = some (.struct (Tryz.prog.fieldsOf 47)) := by kernel_rfl
  have hp : Tryz.prog.stoodInHeld 47 = false := by kernel_rfl
  rw [run_neq_struct, show (10000 : Nat) = 9999 + 1 from rfl, run_equalIn_agg W 9999 47 _ _ hS hp]
  simp only [Program.fieldsOf, Tryz.underlying47]
  go_simp
theorem gnqR : Tryz.prog.eqGuardType Tryz.prog.depth 50 = false := by kernel_rfl
theorem nqR (a b : Int) (X : ByteArray) (W : World) : (binOp .neq 50 (.agg #[.int .i64 a, .int .i64 b, .string X]) (.agg #[.int .i64 a, .int .i64 b, .string X])).run Tryz.prog W = .ok (.bool false) W := by
  have u9 := Tryz.underlying9
  have u3 := Tryz.underlying3
  have z9 := Tryz.sizeOf9
  have z3 := Tryz.sizeOf3
  have a9 := Tryz.isAgg9
  have a3 := Tryz.isAgg3
  have hS : Tryz.prog.underlying 50 = some (.struct (Tryz.prog.fieldsOf 50)) := by kernel_rfl
  have hp : Tryz.prog.stoodInHeld 50 = false := by kernel_rfl
  rw [run_neq_struct, show (10000 : Nat) = 9999 + 1 from rfl, run_equalIn_agg W 9999 50 _ _ hS hp]
  simp only [Program.fieldsOf, Tryz.underlying50]
  go_simp
set_option maxRecDepth 100000 in
set_option maxHeartbeats 4000000 in
theorem cmdOuts_walk {p0 p1 p2 : Prop} (co id : Int) (su s : ByteArray) (w : World) (_ : p0) (_ : p1) (_ : p2) (hs : s.size ≤ reachBytes) (hm : MaxL w) : Calls Tryz.prog 5 #[.agg #[.int .i64 co, .int .i64 id, .string su], .string s] w fun e w' => e = .returned (.bool true) ∧ Below w.heap.size w w' := by
  have hz : s.size ≤ 140737488355328 := Nat.le_trans hs (Nat.le_of_lt reachBytes_lt)
  have EO : Hid (∀ (x : Ou) W, Calls Tryz.prog 18 #[.agg #[.int .i64 x.co, .int .i64 x.id, .string x.su]] W fun e w' => e = .returned (.tuple #[.string (ouT x), .int .i64 (ouE x)]) ∧ Below W.heap.size W w') := fun x W => eout_any x W
  have RO : Hid (∀ W, Calls Tryz.prog 19 #[.agg #[.int .i64 co, .int .i64 id, .string su]] W fun e w' => e = .returned (.tuple #[.string (ouT ⟨co, id, su⟩), .int .i64 (ouE ⟨co, id, su⟩)]) ∧ Below W.heap.size W w') := fun W => reout_any ⟨co, id, su⟩ W
  have DO : Hid (∀ W, Calls Tryz.prog 20 #[.string s] W fun e w' => e = .returned (.tuple #[.agg #[.int .i64 (odV s).co, .int .i64 (odV s).id, .string (odV s).su], .int .i64 (odE s)]) ∧ Below W.heap.size W w') := fun W => dout_any s W hz
  have RD : Hid (∀ W, Calls Tryz.prog 21 #[.string s] W fun e w' => e = .returned (.tuple #[.agg #[.int .i64 (odV s).co, .int .i64 (odV s).id, .string (odV s).su], .int .i64 (odE s)]) ∧ Below W.heap.size W w') := fun W => rdout_any s W hz
  have hT : (ouT ⟨co, id, su⟩).size ≤ 140737488355328 := by
    unfold ouT
    split
    · rename_i h
      have hb := ou_bd h
      have h1 := (put_len co.toNat).2
      have h2 := (put_len id.toNat).2
      have h3 := ptx_len su
      have h4 := (put_len su.size).2
      show (ouB ⟨co, id, su⟩).toArray.size ≤ _
      rw [List.size_toArray]
      unfold ouB
      simp only [List.length_append]
      simp only at hb
      omega
    · show (0 : Nat) ≤ _; omega
  have DB : Hid (ouOk ⟨co, id, su⟩ = true → ∀ W, Calls Tryz.prog 20 #[.string (ouT ⟨co, id, su⟩)] W fun e w' => e = .returned (.tuple #[.agg #[.int .i64 co, .int .i64 id, .string su], .int .i64 0]) ∧ Below W.heap.size W w') := fun ho W => by
    have := dout_any (ouT ⟨co, id, su⟩) W hT
    rw [(od_enc ho).2, show odE (ouT ⟨co, id, su⟩) = 0 from by unfold odE; rw [if_pos (od_enc ho).1]] at this
    exact this
  have E1 := hid (EO.out ⟨co, id, su⟩)
  have EB : Hid (odOk s = true → ∀ W, Calls Tryz.prog 18 #[.agg #[.int .i64 (odV s).co, .int .i64 (odV s).id, .string (odV s).su]] W fun e w' => e = .returned (.tuple #[.string s, .int .i64 0]) ∧ Below W.heap.size W w') := fun ho W => by
    have := EO.out (odV s) W
    rw [od_one ho, show ouE (odV s) = 0 from by unfold ouE; rw [if_pos (od_in s)]] at this
    exact this
  have AW : Hid (∀ W, Below w.heap.size w W → Calls Tryz.prog 12 #[] W fun e w' => e = .returned (.bool true) ∧ Below W.heap.size W w') := fun W hW => awake16 W (hm.keep (hW.keep _))
  have HE : Hid (ouE ⟨co, id, su⟩ = if ouOk ⟨co, id, su⟩ = true then 0 else 1) := rfl
  have HD : Hid (odE s = if odOk s = true then 0 else 3) := rfl
  clear hs hz hm EO hT
  simp only at E1
  generalize ouT ⟨co, id, su⟩ = TT at *
  generalize ouE ⟨co, id, su⟩ = TE at *
  generalize ouOk ⟨co, id, su⟩ = ok at *
  generalize odE s = DE at *
  generalize odOk s = dk at *
  generalize odV s = V at *
  obtain ⟨co2, id2, su2⟩ := V
  simp only at *
  have BA := hid (below_al (Below.refl w.heap.size w) (.cells #[.int .i64 co, .int .i64 id, .string su] 47))
  have ZC : Hid (∀ W, Below (w.alloc (.cells #[.int .i64 co, .int .i64 id, .string su] 47)).heap.size (w.alloc (.cells #[.int .i64 co, .int .i64 id, .string su] 47)) W → W.cell? ⟨w.heap.size, 0, none⟩ = some (.int .i64 co) ∧ W.cell? ⟨w.heap.size, 1, none⟩ = some (.int .i64 id) ∧ W.cell? ⟨w.heap.size, 2, none⟩ = some (.string su)) := fun W hW => by
    have q := (srow w [.int .i64 co, .int .i64 id, .string su] 47).keep (hW.keep (fun _ => False)) (fun h => h)
    exact ⟨q.cellAt rfl, q.cellAt rfl, q.cellAt rfl⟩
  have n1 := fun W => nqO co id su W
  have n2 := fun W => nqR co2 id2 su2 W
  have g1 := gnqO
  have g2 := gnqR
  have B0 := hid (Below.refl (w.alloc (.cells #[.int .i64 co, .int .i64 id, .string su] 47)).heap.size (w.alloc (.cells #[.int .i64 co, .int .i64 id, .string su] 47)))
  obtain ⟨c0, c1, c2⟩ := ZC.out _ B0.out
  go_enter Tryz.func5, Tryz.ntmps5
  go_wp2_with fail
  refine (E1.out _).mono ?_
  rintro e w1 ⟨rfl, b1⟩
  have B1 := hid b1
  clear E1 b1 B0 c0 c1 c2
  obtain ⟨c0, c1, c2⟩ := ZC.out _ B1.out
  go_wp2_with fail
  refine (RO.out _).mono ?_
  rintro e w2 ⟨rfl, b2⟩
  have B2 := hid (below_on B1.out b2)
  clear RO b2 B1 c0 c1 c2
  go_wp2_with fail
  refine (DO.out _).mono ?_
  rintro e w3 ⟨rfl, b3⟩
  have B3 := hid (below_al (below_on B2.out b3) (.cells #[.int .i64 co2, .int .i64 id2, .string su2] 47))
  have R3 := hid (srow w3 [.int .i64 co2, .int .i64 id2, .string su2] 47)
  clear DO b3 B2
  go_wp2_with fail
  generalize w3.alloc (.cells #[.int .i64 co2, .int .i64 id2, .string su2] 47) = V3 at *
  refine (RD.out _).mono ?_
  rintro e w4 ⟨rfl, b4⟩
  have B4 := hid (below_al (below_on B3.out b4) (.cells #[.int .i64 co2, .int .i64 id2, .string su2] 50))
  have R4 := hid (row_old (R3.out.keep (b4.keep (fun _ => False)) (fun h => h)) (.cells #[.int .i64 co2, .int .i64 id2, .string su2] 50))
  have Q4 := hid (srow w4 [.int .i64 co2, .int .i64 id2, .string su2] 50)
  clear RD b4 B3 R3
  have r0 := R4.out.cellAt (o := 0) rfl
  have r1 := R4.out.cellAt (o := 1) rfl
  have r2 := R4.out.cellAt (o := 2) rfl
  have hlt : Hid (w3.heap.size < w4.heap.size) := by
    show _ < _
    have := R4.out.lt
    have hne : w3.heap.size ≠ w4.heap.size := fun h => by
      have x := R4.out
      rw [h] at x
      have y := Q4.out
      unfold RowIs at x y
      rw [x] at y
      injection y with y
      injection y with _ y _
      exact absurd y (by decide)
    simp at this
    omega
  cases ok
  · cases dk
    · obtain rfl : TE = 1 := HE.out
      obtain rfl : DE = 3 := HD.out
      clear DB EB HE HD
      go_wp2_with fail
      refine (AW.out _ (below_on BA.out B4.out)).mono ?_
      rintro e w7 ⟨rfl, b7⟩
      have B7 := hid (below_on (below_on BA.out B4.out) b7)
      clear AW b7
      go_wp2
      go_ret
      exact ⟨rfl, B7.out⟩
    · obtain rfl : TE = 1 := HE.out
      obtain rfl : DE = 0 := HD.out
      have EB1 := hid (EB.out rfl)
      clear DB EB HE HD
      go_wp2_with fail
      refine (EB1.out _).mono ?_
      rintro e w6 ⟨rfl, b6⟩
      have B6 := hid (below_on B4.out b6)
      clear EB1 b6 B4
      go_wp2_with fail
      refine (AW.out _ (below_on BA.out B6.out)).mono ?_
      rintro e w7 ⟨rfl, b7⟩
      have B7 := hid (below_on (below_on BA.out B6.out) b7)
      clear AW b7
      go_wp2
      go_ret
      exact ⟨rfl, B7.out⟩
  · cases dk
    · obtain rfl : TE = 0 := HE.out
      obtain rfl : DE = 3 := HD.out
      have DB1 := hid (DB.out rfl)
      clear DB EB HE HD
      go_wp2_with fail
      generalize hV4 : w4.alloc (.cells #[.int .i64 co2, .int .i64 id2, .string su2] 50) = V4 at *
      clear hV4 r0 r1 r2 Q4
      refine (DB1.out _).mono ?_
      rintro e w5 ⟨rfl, b5⟩
      have B5 := hid (below_al (below_on B4.out b5) (.cells #[.int .i64 co, .int .i64 id, .string su] 47))
      have R5 := hid (row_old (R4.out.keep (b5.keep (fun _ => False)) (fun h => h)) (.cells #[.int .i64 co, .int .i64 id, .string su] 47))
      clear DB1 b5 B4 R4
      obtain ⟨c0, c1, c2⟩ := ZC.out _ B5.out
      have r0 := R5.out.cellAt (o := 0) rfl
      have r1 := R5.out.cellAt (o := 1) rfl
      have r2 := R5.out.cellAt (o := 2) rfl
      go_wp2_with fail
      refine (AW.out _ (below_on BA.out B5.out)).mono ?_
      rintro e w7 ⟨rfl, b7⟩
      have B7 := hid (below_on (below_on BA.out B5.out) b7)
      clear AW b7
      go_wp2
      go_ret
      exact ⟨rfl, B7.out⟩
    · obtain rfl : TE = 0 := HE.out
      obtain rfl : DE = 0 := HD.out
      have DB1 := hid (DB.out rfl)
      have EB1 := hid (EB.out rfl)
      clear DB EB HE HD
      go_wp2_with fail
      generalize hV4 : w4.alloc (.cells #[.int .i64 co2, .int .i64 id2, .string su2] 50) = V4 at *
      clear hV4 r0 r1 r2 Q4
      refine (DB1.out _).mono ?_
      rintro e w5 ⟨rfl, b5⟩
      have B5 := hid (below_al (below_on B4.out b5) (.cells #[.int .i64 co, .int .i64 id, .string su] 47))
      have R5 := hid (row_old (R4.out.keep (b5.keep (fun _ => False)) (fun h => h)) (.cells #[.int .i64 co, .int .i64 id, .string su] 47))
      clear DB1 b5 B4 R4
      obtain ⟨c0, c1, c2⟩ := ZC.out _ B5.out
      have r0 := R5.out.cellAt (o := 0) rfl
      have r1 := R5.out.cellAt (o := 1) rfl
      have r2 := R5.out.cellAt (o := 2) rfl
      go_wp2_with fail
      refine (EB1.out _).mono ?_
      rintro e w6 ⟨rfl, b6⟩
      have B6 := hid (below_on B5.out b6)
      clear EB1 b6 B5
      go_wp2_with fail
      refine (AW.out _ (below_on BA.out B6.out)).mono ?_
      rintro e w7 ⟨rfl, b7⟩
      have B7 := hid (below_on (below_on BA.out B6.out) b7)
      clear AW b7
      go_wp2
      go_ret
      exact ⟨rfl, B7.out⟩
end Go.Proofs.YtikkpfchbcfhlaaGreat
