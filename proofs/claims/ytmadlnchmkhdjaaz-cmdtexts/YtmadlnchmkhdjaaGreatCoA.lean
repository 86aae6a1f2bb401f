/- Outcomes: their texts, the program's and the document's. -/
import Derived.Test.YtmadlnchmkhdjaaGreatJoined22
import Derived.Test.YtmadlnchmkhdjaaGreatJoined25
import Derived.Test.YtmadlnchmkhdjaaGreatJoined16
import Derived.Test.YtmadlnchmkhdjaaGreatCvU
import Derived.Test.YtmadlnchmkhdjaaGreatJoined17
import Derived.Deep.CutRange
namespace Go.Proofs.YtmadlnchmkhdjaaGreat
open Go.RowKit Go.Maps
set_option linter.unusedVariables false
set_option linter.unusedSimpArgs false

structure Ou where
  co : Int
  id : Int
  su : ByteArray
def ouV (o : Ou) : Value := .agg #[.int .i64 o.co, .int .i64 o.id, .string o.su]
def ouOk (o : Ou) : Bool := wiB o.co 0 999 && wiB o.id 0 1099511627776 && decide (o.su.size ≤ 64)
def ouB (o : Ou) : List UInt8 := put o.co.toNat ++ put o.id.toNat ++ ptx o.su
def ouT (o : Ou) : ByteArray := if ouOk o = true then ⟨(ouB o).toArray⟩ else ⟨#[]⟩
def ouE (o : Ou) : Int := if ouOk o = true then 0 else 1
structure OdR where
  a : Int
  e : Int
  o : Ou
def rdO (s : ByteArray) : OdR :=
  let a := dcN s 999 0 0
  let b := dcN s 1099511627776 a.a a.e
  let t := tS s b.a b.e 64
  ⟨t.a, t.e, ⟨(a.n : Int), (b.n : Int), t.x⟩⟩
def ou0 : Ou := ⟨0, 0, ⟨#[]⟩⟩
def odOk (s : ByteArray) : Bool := endE s (rdO s).a (rdO s).e == 0
def odV (s : ByteArray) : Ou := if odOk s = true then (rdO s).o else ou0
def odE (s : ByteArray) : Int := if odOk s = true then 0 else 3
theorem ou_bd {o : Ou} (h : ouOk o = true) : 0 ≤ o.co ∧ o.co ≤ 999 ∧ 0 ≤ o.id ∧ o.id ≤ 1099511627776 ∧ o.su.size ≤ 64 := by
  unfold ouOk wiB at h
  simp at h
  omega
theorem rdO_in (s : ByteArray) : 0 ≤ (rdO s).o.co ∧ (rdO s).o.co ≤ 999 ∧ 0 ≤ (rdO s).o.id ∧ (rdO s).o.id ≤ 1099511627776 ∧ (rdO s).o.su.size ≤ 64 := by
  unfold rdO
  simp only
  have h1 := dcN_le s 999 0 0 (by omega)
  have h2 := dcN_le s 1099511627776 (dcN s 999 0 0).a (dcN s 999 0 0).e (by omega)
  have h3 := tS_len s (dcN s 1099511627776 (dcN s 999 0 0).a (dcN s 999 0 0).e).a (dcN s 1099511627776 (dcN s 999 0 0).a (dcN s 999 0 0).e).e 64 (by omega)
  refine ⟨by omega, h1, by omega, h2, by omega⟩
theorem od_in (s : ByteArray) : ouOk (odV s) = true := by
  unfold odV
  split
  · have h := rdO_in s
    unfold ouOk wiB
    simp
    omega
  · decide +kernel
theorem od_enc {o : Ou} (h : ouOk o = true) : odOk (ouT o) = true ∧ odV (ouT o) = o := by
  obtain ⟨h1, h2, h3, h4, h5⟩ := ou_bd h
  have he : ouT o = ⟨(ouB o).toArray⟩ := by unfold ouT; rw [if_pos h]
  have hd : (ouT o).data.toList = ouB o := by rw [he]
  have a1 := dcN_put (ouT o) [] (put o.id.toNat ++ ptx o.su) o.co.toNat 999 (by rw [hd]; simp [ouB]) (by omega) (by omega)
  have a1' : dcN (ouT o) 999 0 0 = ⟨(((put o.co.toNat).length : Nat) : Int), 0, o.co.toNat⟩ := a1
  have a2 := dcN_put (ouT o) (put o.co.toNat) (ptx o.su) o.id.toNat 1099511627776 (by rw [hd]; simp [ouB]) (by omega) (by omega)
  have a3 := tS_put (ouT o) (put o.co.toNat ++ put o.id.toNat) [] o.su 64 (by rw [hd]; simp [ouB]) (by omega) (by omega)
  have hT : rdO (ouT o) = ⟨(((ouB o).length : Nat) : Int), 0, o⟩ := by
    unfold rdO
    rw [a1']
    simp only
    rw [a2]
    simp only
    rw [a3]
    obtain ⟨co, id, su⟩ := o
    simp only at *
    rw [show ((co.toNat : Nat) : Int) = co by omega, show ((id.toNat : Nat) : Int) = id by omega]
    rfl
  have hz : (ouT o).size = (ouB o).length := size_of _ _ hd
  have hok : odOk (ouT o) = true := by
    unfold odOk
    rw [hT]
    simp only
    have : endE (ouT o) (((ouB o).length : Nat) : Int) 0 = 0 := by
      unfold endE
      rw [if_neg]
      intro hc
      rw [hz] at hc
      omega
    rw [this]
    rfl
  refine ⟨hok, ?_⟩
  unfold odV
  rw [if_pos hok, hT]
theorem od_one {t : ByteArray} (h : odOk t = true) : ouT (odV t) = t := by
  have hin := od_in t
  have hv : odV t = (rdO t).o := by unfold odV; rw [if_pos h]
  unfold ouT
  rw [if_pos hin, hv]
  unfold odOk at h
  have h1 := beq_iff_eq.1 h
  unfold endE at h1
  split at h1
  · cases h1
  · rename_i hc
    have hh : (rdO t).e = 0 := h1
    have T0 : Tok t 0 (rdO t).a (ouB (rdO t).o) := by
      unfold rdO at hh ⊢
      simp only at hh ⊢
      have e2 := st_T hh
      have e1 := st_N e2
      have t1 := tok_N t 999 0 0 e1
      rw [show ((0 : Nat) : Int) = 0 from rfl] at t1
      generalize dcN t 999 0 0 = Y at *
      obtain ⟨ya, ye, yn⟩ := Y
      simp only at *
      have t1' := t1
      obtain ⟨c, rfl, c1, c2, _⟩ := t1'
      have t2 := tok_N t 1099511627776 ye c e2
      generalize dcN t 1099511627776 (c : Int) ye = Z at *
      obtain ⟨za, ze, zn⟩ := Z
      simp only at *
      have t2' := t2
      obtain ⟨d, rfl, d1, d2, _⟩ := t2'
      have t3 := tok_T t 64 ze d hh
      have := (t1.trans t2).trans t3
      unfold ouB
      simpa using this
    obtain ⟨c, hc1, c1, c2, c3⟩ := T0
    have hcs : c = t.size := by
      have : ¬ ((rdO t).e = 0 ∧ (rdO t).a < (t.size : Int)) := hc
      have := fun hx => this ⟨hh, hx⟩
      omega
    rw [hcs] at c3
    have e2 : t.data.toList = ouB (rdO t).o := by
      rw [← c3, Nat.sub_zero, List.drop_zero, List.take_of_length_le (by simp)]
    rw [← e2]
set_option maxRecDepth 100000 in
set_option maxHeartbeats 4000000 in
theorem eout_any (x : Ou) (w : World) : Calls Tryz.prog 18 #[ouV x] w fun e w' => e = .returned (.tuple #[.string (ouT x), .int .i64 (ouE x)]) ∧ Below w.heap.size w w' := by
  have hbd := @ou_bd x
  have HOK : Hid (ouOk x = (wiB x.co 0 999 && wiB x.id 0 1099511627776 && decide (x.su.size ≤ 64))) := rfl
  unfold ouT ouE
  have HB : Hid (ouB x = put x.co.toNat ++ put x.id.toNat ++ ptx x.su) := rfl
  generalize ouB x = R at *
  generalize ouOk x = ok at *
  unfold ouV
  obtain ⟨co, id, su⟩ := x
  simp only at *
  have BA := hid (below_al (Below.refl w.heap.size w) (.cells #[.int .i64 co, .int .i64 id, .string su] 47))
  have ZC : Hid (∀ W, Below (w.alloc (.cells #[.int .i64 co, .int .i64 id, .string su] 47)).heap.size (w.alloc (.cells #[.int .i64 co, .int .i64 id, .string su] 47)) W → (fun w' => w'.cell? ⟨w.heap.size, 0, none⟩ = some (.int .i64 co) ∧ w'.cell? ⟨w.heap.size, 1, none⟩ = some (.int .i64 id) ∧ w'.cell? ⟨w.heap.size, 2, none⟩ = some (.string su)) W) := fun W hW => by
    have q := (srow w [.int .i64 co, .int .i64 id, .string su] 47).keep (hW.keep (fun _ => False)) (fun h => h)
    exact ⟨q.cellAt rfl, q.cellAt rfl, q.cellAt rfl⟩
  obtain ⟨c0, c1, c2⟩ := ZC.out _ (Below.refl _ _)
  have WI := hid (fun a b c W => cwithin_any a b c W)
  cases h1 : wiB co 0 999
  · obtain rfl : ok = false := by rw [HOK.out, h1]; simp
    clear HOK HB hbd ZC
    go_enter Tryz.func18, Tryz.ntmps18
    go_wp2_with fail
    refine (WI.out _ _ _ _).mono ?_
    rintro e w1 ⟨rfl, rfl⟩
    rw [h1]
    go_wp2
    go_ret2
    exact ⟨rfl, BA.out⟩
  cases h2 : wiB id 0 1099511627776
  · obtain rfl : ok = false := by rw [HOK.out, h2]; simp
    clear HOK HB hbd ZC
    go_enter Tryz.func18, Tryz.ntmps18
    go_wp2_with fail
    refine (WI.out _ _ _ _).mono ?_
    rintro e w1 ⟨rfl, rfl⟩
    rw [h1]
    go_wp2_with fail
    refine (WI.out _ _ _ _).mono ?_
    rintro e w2 ⟨rfl, rfl⟩
    rw [h2]
    go_wp2
    go_ret2
    exact ⟨rfl, BA.out⟩
  by_cases h3 : 64 < su.size
  · obtain rfl : ok = false := by rw [HOK.out, decide_eq_false (show ¬ su.size ≤ 64 by omega)]; simp
    have h3i : (64 : Int) < (su.size : Int) := by omega
    clear HOK HB hbd ZC
    go_enter Tryz.func18, Tryz.ntmps18
    go_wp2_with fail
    refine (WI.out _ _ _ _).mono ?_
    rintro e w1 ⟨rfl, rfl⟩
    rw [h1]
    go_wp2_with fail
    refine (WI.out _ _ _ _).mono ?_
    rintro e w2 ⟨rfl, rfl⟩
    rw [h2]
    go_wp2
    go_ret2
    exact ⟨rfl, BA.out⟩
  obtain rfl : ok = true := by rw [HOK.out, h1, h2, decide_eq_true (show su.size ≤ 64 by omega)]; rfl
  obtain ⟨k1, k2, k3, k4, k5⟩ := hbd rfl
  have h3i : ¬ (64 : Int) < (su.size : Int) := by omega
  have K1 : Hid (∀ W, Below (w.alloc (.cells #[.int .i64 co, .int .i64 id, .string su] 47)).heap.size (w.alloc (.cells #[.int .i64 co, .int .i64 id, .string su] 47)) W → Calls Tryz.prog 50 #[.int .i64 co] W fun e w' => e = .returned (.string ⟨(put co.toNat).toArray⟩) ∧ Below W.heap.size W w') := fun W hW => by
    have := cnumber_any co.toNat W (by omega)
    rwa [show ((co.toNat : Nat) : Int) = co by omega] at this
  have K2 : Hid (∀ W, Below (w.alloc (.cells #[.int .i64 co, .int .i64 id, .string su] 47)).heap.size (w.alloc (.cells #[.int .i64 co, .int .i64 id, .string su] 47)) W → Calls Tryz.prog 50 #[.int .i64 id] W fun e w' => e = .returned (.string ⟨(put id.toNat).toArray⟩) ∧ Below W.heap.size W w') := fun W hW => by
    have := cnumber_any id.toNat W (by omega)
    rwa [show ((id.toNat : Nat) : Int) = id by omega] at this
  have K3 : Hid (∀ W, Below (w.alloc (.cells #[.int .i64 co, .int .i64 id, .string su] 47)).heap.size (w.alloc (.cells #[.int .i64 co, .int .i64 id, .string su] 47)) W → Calls Tryz.prog 51 #[.string su] W fun e w' => e = .returned (.string ⟨(ptx su).toArray⟩) ∧ Below W.heap.size W w') := fun W hW => text_any su W (Nat.le_trans k5 (by decide))
  have q1 := fun W => add_ls (put co.toNat) (put id.toNat) W (by have := (put_len co.toNat).2; have := (put_len id.toNat).2; omega)
  have q2 := fun W => add_ls (put co.toNat ++ put id.toNat) (ptx su) W (by have := (put_len co.toNat).2; have := (put_len id.toNat).2; have := ptx_len su; have := (put_len su.size).2; rw [List.length_append]; omega)
  rw [← HB.out] at q2
  generalize put co.toNat ++ put id.toNat = Y1 at *
  generalize put co.toNat = X1 at *
  generalize put id.toNat = X2 at *
  generalize ptx su = X3 at *
  clear HOK HB hbd k1 k2 k3 k4 k5 h3
  go_enter Tryz.func18, Tryz.ntmps18
  go_wp2_with fail
  refine (WI.out _ _ _ _).mono ?_
  rintro e w1 ⟨rfl, rfl⟩
  rw [h1]
  go_wp2_with fail
  refine (WI.out _ _ _ _).mono ?_
  rintro e w2 ⟨rfl, rfl⟩
  rw [h2]
  go_upto_region 3 with fail
  clear c0 c1 c2
  generalize (w.alloc (.cells #[.int .i64 co, .int .i64 id, .string su] 47)) = X at *
  have B0 := hid (Below.refl X.heap.size X).drew
  refine wp_region_held_drew (S := (fun w' => w'.cell? ⟨w.heap.size, 0, none⟩ = some (.int .i64 co) ∧ w'.cell? ⟨w.heap.size, 1, none⟩ = some (.int .i64 id) ∧ w'.cell? ⟨w.heap.size, 2, none⟩ = some (.string su))) (by kernel_rfl) (ZC.out _ B0.out) (fun hHeld => ?_)
  refine wpAnyH_take (i := 0) (v := ?vv1) rfl (by kernel_rfl) (by kernel_rfl) (by kernel_rfl) (fun _ _ _ h => h) (Or.inl ⟨by rfl, ?hy1⟩) (by assumption) ?rest1
  case hy1 => (intro w hSw; (try dsimp only at hSw); go_simp; first | done | with_reducible rfl)
  try simp only [Act.put, List.getElem_toArray, List.getElem_cons_succ, List.getElem_cons_zero, List.setIfInBounds_toArray, List.set_cons_zero, List.set_cons_succ]
  refine wpAnyH_take (i := 1) (v := ?vv2) rfl (by kernel_rfl) (by kernel_rfl) (by kernel_rfl) (fun _ _ _ h => h) (Or.inl ⟨by rfl, ?hy2⟩) (by assumption) ?rest2
  case hy2 => (intro w hSw; (try dsimp only at hSw); go_simp; first | done | with_reducible rfl)
  try simp only [Act.put, List.getElem_toArray, List.getElem_cons_succ, List.getElem_cons_zero, List.setIfInBounds_toArray, List.set_cons_zero, List.set_cons_succ]
  refine wpAnyH_take (i := 3) (v := ?vv3) rfl (by kernel_rfl) (by kernel_rfl) (by kernel_rfl) (fun _ _ _ h => h) (Or.inl ⟨by rfl, ?hy3⟩) (by assumption) ?rest3
  case hy3 => (intro w hSw; (try dsimp only at hSw); go_simp; first | done | with_reducible rfl)
  try simp only [Act.put, List.getElem_toArray, List.getElem_cons_succ, List.getElem_cons_zero, List.setIfInBounds_toArray, List.set_cons_zero, List.set_cons_succ]
  refine wpAnyH_take (i := 4) (v := ?vv4) rfl (by kernel_rfl) (by kernel_rfl) (by kernel_rfl) (fun _ _ _ h => h) (Or.inl ⟨by rfl, ?hy4⟩) (by assumption) ?rest4
  case hy4 => (intro w hSw; (try dsimp only at hSw); go_simp; first | done | with_reducible rfl)
  try simp only [Act.put, List.getElem_toArray, List.getElem_cons_succ, List.getElem_cons_zero, List.setIfInBounds_toArray, List.set_cons_zero, List.set_cons_succ]
  refine wpAnyH_take (i := 7) (v := ?vv5) rfl (by kernel_rfl) (by kernel_rfl) (by kernel_rfl) (fun _ _ _ h => h) (Or.inl ⟨by rfl, ?hy5⟩) (by assumption) ?rest5
  case hy5 => (intro w hSw; (try dsimp only at hSw); go_simp; first | done | with_reducible rfl)
  try simp only [Act.put, List.getElem_toArray, List.getElem_cons_succ, List.getElem_cons_zero, List.setIfInBounds_toArray, List.set_cons_zero, List.set_cons_succ]
  refine wpAnyH_take (i := 8) (v := ?vv6) rfl (by kernel_rfl) (by kernel_rfl) (by kernel_rfl) (fun _ _ _ h => h) (Or.inl ⟨by rfl, ?hy6⟩) (by assumption) ?rest6
  case hy6 => (intro w hSw; (try dsimp only at hSw); go_simp; first | done | with_reducible rfl)
  try simp only [Act.put, List.getElem_toArray, List.getElem_cons_succ, List.getElem_cons_zero, List.setIfInBounds_toArray, List.set_cons_zero, List.set_cons_succ]
  refine wpAnyH_ready (rs := [2]) (by kernel_rfl) (by simp) ?_
  refine AllReadyH.cons rfl (fun K hK => ?_) AllReadyH.nil
  go_simp
  refine (K1.out _ B0.out).mono ?_
  rintro e wq1 ⟨rfl, bq⟩
  have BQ1 := hid (below_on B0.out bq)
  clear bq hHeld
  go_wp2_with fail
  refine hK.out _ _ (ZC.out _ BQ1.out) (fun hHeld => ?_)
  clear hK K
  try simp only [Act.put, List.getElem_toArray, List.getElem_cons_succ, List.getElem_cons_zero, List.setIfInBounds_toArray, List.set_cons_zero, List.set_cons_succ]
  refine wpAnyH_ready (rs := [5]) (by kernel_rfl) (by simp) ?_
  refine AllReadyH.cons rfl (fun K hK => ?_) AllReadyH.nil
  go_simp
  refine (K2.out _ BQ1.out).mono ?_
  rintro e wq2 ⟨rfl, bq⟩
  have BQ2 := hid (below_on BQ1.out bq)
  clear bq hHeld
  go_wp2_with fail
  refine hK.out _ _ (ZC.out _ BQ2.out) (fun hHeld => ?_)
  clear hK K
  try simp only [Act.put, List.getElem_toArray, List.getElem_cons_succ, List.getElem_cons_zero, List.setIfInBounds_toArray, List.set_cons_zero, List.set_cons_succ]
  refine wpAnyH_take (i := 6) (v := ?vv7) rfl (by kernel_rfl) (by kernel_rfl) (by kernel_rfl) (fun _ _ _ h => h) (Or.inl ⟨by rfl, ?hy7⟩) (by assumption) ?rest7
  case hy7 => (intro w hSw; (try dsimp only at hSw); go_simp; first | done | with_reducible rfl)
  try simp only [Act.put, List.getElem_toArray, List.getElem_cons_succ, List.getElem_cons_zero, List.setIfInBounds_toArray, List.set_cons_zero, List.set_cons_succ]
  refine wpAnyH_ready (rs := [9]) (by kernel_rfl) (by simp) ?_
  refine AllReadyH.cons rfl (fun K hK => ?_) AllReadyH.nil
  go_simp
  refine (K3.out _ BQ2.out).mono ?_
  rintro e wq3 ⟨rfl, bq⟩
  have BQ3 := hid (below_on BQ2.out bq)
  clear bq hHeld
  go_wp2_with fail
  refine hK.out _ _ (ZC.out _ BQ3.out) (fun hHeld => ?_)
  clear hK K
  try simp only [Act.put, List.getElem_toArray, List.getElem_cons_succ, List.getElem_cons_zero, List.setIfInBounds_toArray, List.set_cons_zero, List.set_cons_succ]
  refine wpAnyH_take (i := 10) (v := ?vv8) rfl (by kernel_rfl) (by kernel_rfl) (by kernel_rfl) (fun _ _ _ h => h) (Or.inl ⟨by rfl, ?hy8⟩) (by assumption) ?rest8
  case hy8 => (intro w hSw; (try dsimp only at hSw); go_simp; first | done | with_reducible rfl)
  try simp only [Act.put, List.getElem_toArray, List.getElem_cons_succ, List.getElem_cons_zero, List.setIfInBounds_toArray, List.set_cons_zero, List.set_cons_succ]
  refine wpAnyH_take (i := 11) (v := ?vv9) rfl (by kernel_rfl) (by kernel_rfl) (by kernel_rfl) (fun _ _ _ h => h) (Or.inl ⟨by rfl, ?hy9⟩) (by assumption) ?rest9
  case hy9 => (intro w hSw; (try dsimp only at hSw); go_simp; first | done | with_reducible rfl)
  try simp only [Act.put, List.getElem_toArray, List.getElem_cons_succ, List.getElem_cons_zero, List.setIfInBounds_toArray, List.set_cons_zero, List.set_cons_succ]
  refine wpAnyH_take (i := 12) (v := ?vv10) rfl (by kernel_rfl) (by kernel_rfl) (by kernel_rfl) (fun _ _ _ h => h) (Or.inl ⟨by rfl, ?hy10⟩) (by assumption) ?rest10
  case hy10 => (intro w hSw; (try dsimp only at hSw); go_simp; first | done | with_reducible rfl)
  try simp only [Act.put, List.getElem_toArray, List.getElem_cons_succ, List.getElem_cons_zero, List.setIfInBounds_toArray, List.set_cons_zero, List.set_cons_succ]
  refine wpAnyH_done (by kernel_rfl) ?_ _
  go_wp2_with fail
  go_ret2
  exact ⟨rfl, below_on BA.out BQ3.out⟩
theorem rnum16_any (n : Nat) (w : World) (hn : n ≤ 9223372036854775807) : Calls Tryz.prog 52 #[.int .i64 (n : Int)] w fun e w' => e = .returned (.string ⟨(put n).toArray⟩) ∧ Below w.heap.size w w' := by
  have C := hid (ref_number_any n w (by omega))
  have hw : IntKind.u64.wrap (n : Int) = (n : Int) := by rw [IntKind.wrap_u64]; omega
  go_enter Tryz.func52, Tryz.ntmps52
  go_wp2_with fail
  refine C.out.mono ?_
  rintro e w1 ⟨rfl, h1⟩
  have H1 := hid h1
  clear h1 C
  go_wp2
  go_ret
  exact ⟨rfl, H1.out⟩
set_option maxRecDepth 100000 in
set_option maxHeartbeats 4000000 in
theorem reout_any (x : Ou) (w : World) : Calls Tryz.prog 19 #[ouV x] w fun e w' => e = .returned (.tuple #[.string (ouT x), .int .i64 (ouE x)]) ∧ Below w.heap.size w w' := by
  have hbd := @ou_bd x
  have HOK : Hid (ouOk x = (wiB x.co 0 999 && wiB x.id 0 1099511627776 && decide (x.su.size ≤ 64))) := rfl
  unfold ouT ouE
  have HB : Hid (ouB x = put x.co.toNat ++ put x.id.toNat ++ ptx x.su) := rfl
  generalize ouB x = R at *
  generalize ouOk x = ok at *
  unfold ouV
  obtain ⟨co, id, su⟩ := x
  simp only at *
  have BA := hid (below_al (Below.refl w.heap.size w) (.cells #[.int .i64 co, .int .i64 id, .string su] 50))
  have ZC : Hid (∀ W, Below (w.alloc (.cells #[.int .i64 co, .int .i64 id, .string su] 50)).heap.size (w.alloc (.cells #[.int .i64 co, .int .i64 id, .string su] 50)) W → (fun w' => w'.cell? ⟨w.heap.size, 0, none⟩ = some (.int .i64 co) ∧ w'.cell? ⟨w.heap.size, 1, none⟩ = some (.int .i64 id) ∧ w'.cell? ⟨w.heap.size, 2, none⟩ = some (.string su)) W) := fun W hW => by
    have q := (srow w [.int .i64 co, .int .i64 id, .string su] 50).keep (hW.keep (fun _ => False)) (fun h => h)
    exact ⟨q.cellAt rfl, q.cellAt rfl, q.cellAt rfl⟩
  obtain ⟨c0, c1, c2⟩ := ZC.out _ (Below.refl _ _)
  by_cases h0 : co < 0
  · obtain rfl : ok = false := by rw [HOK.out, show wiB co 0 999 = false from by unfold wiB; rw [decide_eq_false (by omega)]; rfl]; simp
    clear HOK HB hbd ZC
    go_enter Tryz.func19, Tryz.ntmps19
    go_wp2
    go_ret2
    exact ⟨rfl, BA.out⟩
  by_cases h1 : 999 < co
  · obtain rfl : ok = false := by rw [HOK.out, show wiB co 0 999 = false from by unfold wiB; rw [decide_eq_false (show ¬ co ≤ 999 by omega)]; simp]; simp
    clear HOK HB hbd ZC
    go_enter Tryz.func19, Tryz.ntmps19
    go_wp2
    go_ret2
    exact ⟨rfl, BA.out⟩
  by_cases h2 : id < 0
  · obtain rfl : ok = false := by rw [HOK.out, show wiB id 0 1099511627776 = false from by unfold wiB; rw [decide_eq_false (show ¬ 0 ≤ id by omega)]; rfl]; simp
    clear HOK HB hbd ZC
    go_enter Tryz.func19, Tryz.ntmps19
    go_wp2
    go_ret2
    exact ⟨rfl, BA.out⟩
  by_cases h4 : 1099511627776 < id
  · obtain rfl : ok = false := by rw [HOK.out, show wiB id 0 1099511627776 = false from by unfold wiB; rw [decide_eq_false (show ¬ id ≤ 1099511627776 by omega)]; simp]; simp
    clear HOK HB hbd ZC
    go_enter Tryz.func19, Tryz.ntmps19
    go_wp2
    go_ret2
    exact ⟨rfl, BA.out⟩
  by_cases h3 : 64 < su.size
  · obtain rfl : ok = false := by rw [HOK.out, decide_eq_false (show ¬ su.size ≤ 64 by omega)]; simp
    have h3i : (64 : Int) < (su.size : Int) := by omega
    clear HOK HB hbd ZC
    go_enter Tryz.func19, Tryz.ntmps19
    go_wp2
    go_ret2
    exact ⟨rfl, BA.out⟩
  have h1' : wiB co 0 999 = true := by unfold wiB; simp; omega
  have h2' : wiB id 0 1099511627776 = true := by unfold wiB; simp; omega
  obtain rfl : ok = true := by rw [HOK.out, h1', h2', decide_eq_true (show su.size ≤ 64 by omega)]; rfl
  obtain ⟨k1, k2, k3, k4, k5⟩ := hbd rfl
  have h3i : ¬ (64 : Int) < (su.size : Int) := by omega
  have K1 : Hid (∀ W, Below (w.alloc (.cells #[.int .i64 co, .int .i64 id, .string su] 50)).heap.size (w.alloc (.cells #[.int .i64 co, .int .i64 id, .string su] 50)) W → Calls Tryz.prog 52 #[.int .i64 co] W fun e w' => e = .returned (.string ⟨(put co.toNat).toArray⟩) ∧ Below W.heap.size W w') := fun W hW => by
    have := rnum16_any co.toNat W (by omega)
    rwa [show ((co.toNat : Nat) : Int) = co by omega] at this
  have K2 : Hid (∀ W, Below (w.alloc (.cells #[.int .i64 co, .int .i64 id, .string su] 50)).heap.size (w.alloc (.cells #[.int .i64 co, .int .i64 id, .string su] 50)) W → Calls Tryz.prog 52 #[.int .i64 id] W fun e w' => e = .returned (.string ⟨(put id.toNat).toArray⟩) ∧ Below W.heap.size W w') := fun W hW => by
    have := rnum16_any id.toNat W (by omega)
    rwa [show ((id.toNat : Nat) : Int) = id by omega] at this
  have K3 : Hid (∀ W, Below (w.alloc (.cells #[.int .i64 co, .int .i64 id, .string su] 50)).heap.size (w.alloc (.cells #[.int .i64 co, .int .i64 id, .string su] 50)) W → Calls Tryz.prog 53 #[.string su] W fun e w' => e = .returned (.string ⟨(ptx su).toArray⟩) ∧ Below W.heap.size W w') := fun W hW => ref_text_any su W (Nat.le_trans k5 (by decide))
  have q1 := fun W => add_ls (put co.toNat) (put id.toNat) W (by have := (put_len co.toNat).2; have := (put_len id.toNat).2; omega)
  have q2 := fun W => add_ls (put co.toNat ++ put id.toNat) (ptx su) W (by have := (put_len co.toNat).2; have := (put_len id.toNat).2; have := ptx_len su; have := (put_len su.size).2; rw [List.length_append]; omega)
  rw [← HB.out] at q2
  generalize put co.toNat ++ put id.toNat = Y1 at *
  generalize put co.toNat = X1 at *
  generalize put id.toNat = X2 at *
  generalize ptx su = X3 at *
  clear HOK HB hbd k1 k2 k3 k4 k5 h3
  go_enter Tryz.func19, Tryz.ntmps19
  go_upto_region 3 with fail
  clear c0 c1 c2
  generalize (w.alloc (.cells #[.int .i64 co, .int .i64 id, .string su] 50)) = X at *
  have B0 := hid (Below.refl X.heap.size X).drew
  refine wp_region_held_drew (S := (fun w' => w'.cell? ⟨w.heap.size, 0, none⟩ = some (.int .i64 co) ∧ w'.cell? ⟨w.heap.size, 1, none⟩ = some (.int .i64 id) ∧ w'.cell? ⟨w.heap.size, 2, none⟩ = some (.string su))) (by kernel_rfl) (ZC.out _ B0.out) (fun hHeld => ?_)
  refine wpAnyH_take (i := 0) (v := ?vv11) rfl (by kernel_rfl) (by kernel_rfl) (by kernel_rfl) (fun _ _ _ h => h) (Or.inl ⟨by rfl, ?hy11⟩) (by assumption) ?rest11
  case hy11 => (intro w hSw; (try dsimp only at hSw); go_simp; first | done | with_reducible rfl)
  try simp only [Act.put, List.getElem_toArray, List.getElem_cons_succ, List.getElem_cons_zero, List.setIfInBounds_toArray, List.set_cons_zero, List.set_cons_succ]
  refine wpAnyH_take (i := 1) (v := ?vv12) rfl (by kernel_rfl) (by kernel_rfl) (by kernel_rfl) (fun _ _ _ h => h) (Or.inl ⟨by rfl, ?hy12⟩) (by assumption) ?rest12
  case hy12 => (intro w hSw; (try dsimp only at hSw); go_simp; first | done | with_reducible rfl)
  try simp only [Act.put, List.getElem_toArray, List.getElem_cons_succ, List.getElem_cons_zero, List.setIfInBounds_toArray, List.set_cons_zero, List.set_cons_succ]
  refine wpAnyH_take (i := 3) (v := ?vv13) rfl (by kernel_rfl) (by kernel_rfl) (by kernel_rfl) (fun _ _ _ h => h) (Or.inl ⟨by rfl, ?hy13⟩) (by assumption) ?rest13
  case hy13 => (intro w hSw; (try dsimp only at hSw); go_simp; first | done | with_reducible rfl)
  try simp only [Act.put, List.getElem_toArray, List.getElem_cons_succ, List.getElem_cons_zero, List.setIfInBounds_toArray, List.set_cons_zero, List.set_cons_succ]
  refine wpAnyH_take (i := 4) (v := ?vv14) rfl (by kernel_rfl) (by kernel_rfl) (by kernel_rfl) (fun _ _ _ h => h) (Or.inl ⟨by rfl, ?hy14⟩) (by assumption) ?rest14
  case hy14 => (intro w hSw; (try dsimp only at hSw); go_simp; first | done | with_reducible rfl)
  try simp only [Act.put, List.getElem_toArray, List.getElem_cons_succ, List.getElem_cons_zero, List.setIfInBounds_toArray, List.set_cons_zero, List.set_cons_succ]
  refine wpAnyH_take (i := 7) (v := ?vv15) rfl (by kernel_rfl) (by kernel_rfl) (by kernel_rfl) (fun _ _ _ h => h) (Or.inl ⟨by rfl, ?hy15⟩) (by assumption) ?rest15
  case hy15 => (intro w hSw; (try dsimp only at hSw); go_simp; first | done | with_reducible rfl)
  try simp only [Act.put, List.getElem_toArray, List.getElem_cons_succ, List.getElem_cons_zero, List.setIfInBounds_toArray, List.set_cons_zero, List.set_cons_succ]
  refine wpAnyH_take (i := 8) (v := ?vv16) rfl (by kernel_rfl) (by kernel_rfl) (by kernel_rfl) (fun _ _ _ h => h) (Or.inl ⟨by rfl, ?hy16⟩) (by assumption) ?rest16
  case hy16 => (intro w hSw; (try dsimp only at hSw); go_simp; first | done | with_reducible rfl)
  try simp only [Act.put, List.getElem_toArray, List.getElem_cons_succ, List.getElem_cons_zero, List.setIfInBounds_toArray, List.set_cons_zero, List.set_cons_succ]
  refine wpAnyH_ready (rs := [2]) (by kernel_rfl) (by simp) ?_
  refine AllReadyH.cons rfl (fun K hK => ?_) AllReadyH.nil
  go_simp
  refine (K1.out _ B0.out).mono ?_
  rintro e wq4 ⟨rfl, bq⟩
  have BQ4 := hid (below_on B0.out bq)
  clear bq hHeld
  go_wp2_with fail
  refine hK.out _ _ (ZC.out _ BQ4.out) (fun hHeld => ?_)
  clear hK K
  try simp only [Act.put, List.getElem_toArray, List.getElem_cons_succ, List.getElem_cons_zero, List.setIfInBounds_toArray, List.set_cons_zero, List.set_cons_succ]
  refine wpAnyH_ready (rs := [5]) (by kernel_rfl) (by simp) ?_
  refine AllReadyH.cons rfl (fun K hK => ?_) AllReadyH.nil
  go_simp
  refine (K2.out _ BQ4.out).mono ?_
  rintro e wq5 ⟨rfl, bq⟩
  have BQ5 := hid (below_on BQ4.out bq)
  clear bq hHeld
  go_wp2_with fail
  refine hK.out _ _ (ZC.out _ BQ5.out) (fun hHeld => ?_)
  clear hK K
  try simp only [Act.put, List.getElem_toArray, List.getElem_cons_succ, List.getElem_cons_zero, List.setIfInBounds_toArray, List.set_cons_zero, List.set_cons_succ]
  refine wpAnyH_take (i := 6) (v := ?vv17) rfl (by kernel_rfl) (by kernel_rfl) (by kernel_rfl) (fun _ _ _ h => h) (Or.inl ⟨by rfl, ?hy17⟩) (by assumption) ?rest17
  case hy17 => (intro w hSw; (try dsimp only at hSw); go_simp; first | done | with_reducible rfl)
  try simp only [Act.put, List.getElem_toArray, List.getElem_cons_succ, List.getElem_cons_zero, List.setIfInBounds_toArray, List.set_cons_zero, List.set_cons_succ]
  refine wpAnyH_ready (rs := [9]) (by kernel_rfl) (by simp) ?_
  refine AllReadyH.cons rfl (fun K hK => ?_) AllReadyH.nil
  go_simp
  refine (K3.out _ BQ5.out).mono ?_
  rintro e wq6 ⟨rfl, bq⟩
  have BQ6 := hid (below_on BQ5.out bq)
  clear bq hHeld
  go_wp2_with fail
  refine hK.out _ _ (ZC.out _ BQ6.out) (fun hHeld => ?_)
  clear hK K
  try simp only [Act.put, List.getElem_toArray, List.getElem_cons_succ, List.getElem_cons_zero, List.setIfInBounds_toArray, List.set_cons_zero, List.set_cons_succ]
  refine wpAnyH_take (i := 10) (v := ?vv18) rfl (by kernel_rfl) (by kernel_rfl) (by kernel_rfl) (fun _ _ _ h => h) (Or.inl ⟨by rfl, ?hy18⟩) (by assumption) ?rest18
  case hy18 => (intro w hSw; (try dsimp only at hSw); go_simp; first | done | with_reducible rfl)
  try simp only [Act.put, List.getElem_toArray, List.getElem_cons_succ, List.getElem_cons_zero, List.setIfInBounds_toArray, List.set_cons_zero, List.set_cons_succ]
  refine wpAnyH_take (i := 11) (v := ?vv19) rfl (by kernel_rfl) (by kernel_rfl) (by kernel_rfl) (fun _ _ _ h => h) (Or.inl ⟨by rfl, ?hy19⟩) (by assumption) ?rest19
  case hy19 => (intro w hSw; (try dsimp only at hSw); go_simp; first | done | with_reducible rfl)
  try simp only [Act.put, List.getElem_toArray, List.getElem_cons_succ, List.getElem_cons_zero, List.setIfInBounds_toArray, List.set_cons_zero, List.set_cons_succ]
  refine wpAnyH_take (i := 12) (v := ?vv20) rfl (by kernel_rfl) (by kernel_rfl) (by kernel_rfl) (fun _ _ _ h => h) (Or.inl ⟨by rfl, ?hy20⟩) (by assumption) ?rest20
  case hy20 => (intro w hSw; (try dsimp only at hSw); go_simp; first | done | with_reducible rfl)
  try simp only [Act.put, List.getElem_toArray, List.getElem_cons_succ, List.getElem_cons_zero, List.setIfInBounds_toArray, List.set_cons_zero, List.set_cons_succ]
  refine wpAnyH_done (by kernel_rfl) ?_ _
  go_wp2_with fail
  go_ret2
  exact ⟨rfl, below_on BA.out BQ6.out⟩
end Go.Proofs.YtmadlnchmkhdjaaGreat
