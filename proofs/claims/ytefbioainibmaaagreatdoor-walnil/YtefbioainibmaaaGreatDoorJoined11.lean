/- Joined: A log's texts: a base's, an entry's; what may be in one. A base and an entry, out of the bodies of their frames. -/
import Derived.Test.YtefbioainibmaaaGreatDoorJoined02
import Derived.Test.YtefbioainibmaaaGreatDoorJoined01
import Derived.Test.YtefbioainibmaaaGreatDoorJoined05
import Derived.Test.YtefbioainibmaaaGreatDoorJoined09
import Derived.Test.YtefbioainibmaaaGreatDoorJoined07
import Derived.Test.YtefbioainibmaaaGreatDoorJoined06
import Derived.Deep.RegionHeld3
import Derived.Deep.RegionLaw
import Derived.Test.YtefbioainibmaaaGreatDoorJoined08
import Derived.Laws.ResultCell
namespace Go.Proofs.YtefbioainibmaaaGreatDoor
open Go.RowKit Go.Maps
set_option linter.unusedVariables false
set_option linter.unusedSimpArgs false

/-- a base's frame, and an entry's -/
def bsB (ix tm : Nat) : List UInt8 := frm (put ix ++ put tm)
def enB (tm kd : Nat) (da : ByteArray) : List UInt8 := frm (put tm ++ (put kd ++ ptx da))
/-- may a number be a term? -/
def tmOk (x : Int) : Bool := decide (0 ≤ x) && decide (x ≤ 1099511627776)
/-- why an entry may not be -/
def rfE (x : En) : Int := if tmOk x.tm = false ∨ x.kd < 0 ∨ 255 < x.kd then 1 else if 65536 < (x.da.size : Int) then 2 else 0
set_option maxRecDepth 100000 in
set_option maxHeartbeats 800000 in
theorem framed_any (b : List UInt8) (w : World) (hb : b.length ≤ 262144) : Calls Tryz.prog 119 #[.string ⟨b.toArray⟩] w fun e w' => e = .returned (.string ⟨(frm b).toArray⟩) ∧ Below w.heap.size w w' := by
  have F := hid (frame_ok ⟨b.toArray⟩ w (by show b.toArray.size ≤ _; simpa using hb))
  go_enter Tryz.func119, Tryz.ntmps119
  go_wp2_with fail
  refine F.out.mono ?_
  rintro e w1 ⟨rfl, h1⟩
  go_wp2
  go_ret
  exact ⟨rfl, h1⟩
set_option maxRecDepth 100000 in
set_option maxHeartbeats 800000 in
theorem isTerm_any (x : Int) (w : World) : Calls Tryz.prog 82 #[.int .i64 x] w fun e w' => e = .returned (.bool (tmOk x)) ∧ w' = w := by
  unfold tmOk
  by_cases h1 : 0 ≤ x
  · have d1 : decide (0 ≤ x) = true := decide_eq_true h1
    by_cases h2 : x ≤ 1099511627776
    · have d2 : decide (x ≤ 1099511627776) = true := decide_eq_true h2
      rw [d1, d2]
      go_enter Tryz.func82, Tryz.ntmps82
      go_wp2
      go_ret
      exact ⟨rfl, rfl⟩
    · have d2 : decide (x ≤ 1099511627776) = false := decide_eq_false h2
      rw [d1, d2]
      go_enter Tryz.func82, Tryz.ntmps82
      go_wp2
      go_ret
      exact ⟨rfl, rfl⟩
  · have d1 : decide (0 ≤ x) = false := decide_eq_false h1
    rw [d1]
    go_enter Tryz.func82, Tryz.ntmps82
    go_wp2
    go_ret
    exact ⟨rfl, rfl⟩
set_option maxRecDepth 100000 in
set_option maxHeartbeats 800000 in
theorem baseText_any (ix tm : Nat) (w : World) (h1 : ix < 9223372036854775808) (h2 : tm < 9223372036854775808) : Calls Tryz.prog 169 #[.int .i64 ix, .int .i64 tm] w fun e w' => e = .returned (.string ⟨(bsB ix tm).toArray⟩) ∧ Below w.heap.size w w' := by
  have u1 : IntKind.u64.wrap (ix : Int) = (ix : Int) := by rw [IntKind.wrap_u64]; omega
  have u2 : IntKind.u64.wrap (tm : Int) = (tm : Int) := by rw [IntKind.wrap_u64]; omega
  have N1 := hid (fun W => number_any ix W (by omega))
  have N2 := hid (fun W => number_any tm W (by omega))
  have l1 := (put_len ix).2
  have l2 := (put_len tm).2
  have AD := fun W => add_ls (put ix) (put tm) W (by omega)
  have F := hid (fun W => framed_any (put ix ++ put tm) W (by rw [List.length_append]; omega))
  have HE : Hid (bsB ix tm = frm (put ix ++ put tm)) := rfl
  rw [HE.out]
  clear HE h1 h2 l1 l2
  generalize put ix ++ put tm = B at *
  generalize put ix = X at *
  generalize put tm = Y at *
  generalize frm B = Z at *
  go_enter Tryz.func169, Tryz.ntmps169
  go_wp2_with fail
  refine (N1.out _).mono ?_
  rintro e w1 ⟨rfl, b1⟩
  go_wp2_with fail
  refine (N2.out _).mono ?_
  rintro e w2 ⟨rfl, b2⟩
  go_wp2_with fail
  refine (F.out _).mono ?_
  rintro e w3 ⟨rfl, b3⟩
  go_wp2
  go_ret
  exact ⟨rfl, below_on (below_on b1 b2) b3⟩
set_option maxRecDepth 100000 in
set_option maxHeartbeats 1600000 in
theorem entryText_any (tm kd : Nat) (da : ByteArray) (w : World) (h1 : tm < 9223372036854775808) (h2 : kd < 9223372036854775808) (h3 : da.size ≤ 65536) : Calls Tryz.prog 174 #[.agg #[.int .i64 tm, .int .i64 kd, .string da]] w fun e w' => e = .returned (.string ⟨(enB tm kd da).toArray⟩) ∧ Below w.heap.size w w' := by
  have u1 : IntKind.u64.wrap (tm : Int) = (tm : Int) := by rw [IntKind.wrap_u64]; omega
  have u2 : IntKind.u64.wrap (kd : Int) = (kd : Int) := by rw [IntKind.wrap_u64]; omega
  have R0 := hid (srow w [.int .i64 (tm : Int), .int .i64 (kd : Int), .string da] 68)
  have BA : Hid (Below w.heap.size w (w.alloc (.cells #[.int .i64 (tm : Int), .int .i64 (kd : Int), .string da] 68))) := below_al (Below.refl _ _) _
  have N1 : Hid (∀ W, Below (w.alloc (.cells #[.int .i64 (tm : Int), .int .i64 (kd : Int), .string da] 68)).heap.size (w.alloc (.cells #[.int .i64 (tm : Int), .int .i64 (kd : Int), .string da] 68)) W → _) := fun W _ => number_any tm W (by omega)
  have N2 : Hid (∀ W, Below (w.alloc (.cells #[.int .i64 (tm : Int), .int .i64 (kd : Int), .string da] 68)).heap.size (w.alloc (.cells #[.int .i64 (tm : Int), .int .i64 (kd : Int), .string da] 68)) W → _) := fun W _ => number_any kd W (by omega)
  have N3 : Hid (∀ W, Below (w.alloc (.cells #[.int .i64 (tm : Int), .int .i64 (kd : Int), .string da] 68)).heap.size (w.alloc (.cells #[.int .i64 (tm : Int), .int .i64 (kd : Int), .string da] 68)) W → _) := fun W _ => text_any da W (by have : 65536 ≤ reachBytes := (by decide); omega)
  have l1 := (put_len tm).2
  have l2 := (put_len kd).2
  have l3 := ptx_len da
  have l4 := (put_len da.size).2
  have AD := fun W => add_ls (put tm) (put kd) W (by omega)
  have AD2 := fun W => add_ls (put tm ++ put kd) (ptx da) W (by rw [List.length_append]; omega)
  have F : Hid (∀ W, Below (w.alloc (.cells #[.int .i64 (tm : Int), .int .i64 (kd : Int), .string da] 68)).heap.size (w.alloc (.cells #[.int .i64 (tm : Int), .int .i64 (kd : Int), .string da] 68)) W → _) := fun W _ => framed_any (put tm ++ put kd ++ ptx da) W (by rw [List.length_append, List.length_append]; omega)
  have HE : Hid (enB tm kd da = frm (put tm ++ put kd ++ ptx da)) := by show _ = _; rw [List.append_assoc]; rfl
  rw [HE.out]
  clear HE h1 h2 h3 l1 l2 l3 l4
  generalize put tm ++ put kd ++ ptx da = B at *
  generalize put tm ++ put kd = C at *
  generalize put tm = X at *
  generalize put kd = Y at *
  generalize ptx da = D at *
  generalize frm B = Z at *
  go_enter Tryz.func174, Tryz.ntmps174
  go_wp2_with fail
  generalize w.alloc (.cells #[.int .i64 (tm : Int), .int .i64 (kd : Int), .string da] 68) = V at *
  have B0 : Hid (Below V.heap.size V V.drew) := (Below.refl _ _).drew
  have ZC : Hid (∀ W, Below V.heap.size V W → (W.cell? ⟨w.heap.size, 0, none⟩ = some (.int .i64 (tm : Int)) ∧ W.cell? ⟨w.heap.size, 1, none⟩ = some (.int .i64 (kd : Int)) ∧ W.cell? ⟨w.heap.size, 2, none⟩ = some (.string da))) := fun W hW => by
    have q := R0.out.keep (hW.keep (fun _ => False)) (fun h => h)
    exact ⟨q.cellAt (o := 0) rfl, q.cellAt (o := 1) rfl, q.cellAt (o := 2) rfl⟩
  refine wp_region_held_drew (S := fun W => W.cell? ⟨w.heap.size, 0, none⟩ = some (.int .i64 (tm : Int)) ∧ W.cell? ⟨w.heap.size, 1, none⟩ = some (.int .i64 (kd : Int)) ∧ W.cell? ⟨w.heap.size, 2, none⟩ = some (.string da)) (by kernel_rfl) (ZC.out _ B0.out) (fun hHeld => ?_)
  refine wpAnyH_take (i := 0) (v := ?vv1) rfl (by kernel_rfl) (by kernel_rfl) (by kernel_rfl) (fun _ _ _ h => h) (Or.inl ⟨by rfl, ?hy1⟩) (by assumption) ?rest1
  case hy1 => (intro w hSw; (try dsimp only at hSw); go_simp; first | done | with_reducible rfl)
  try simp only [Act.put, List.getElem_toArray, List.getElem_cons_succ, List.getElem_cons_zero, List.setIfInBounds_toArray, List.set_cons_zero, List.set_cons_succ]
  refine wpAnyH_take (i := 1) (v := ?vv2) rfl (by kernel_rfl) (by kernel_rfl) (by kernel_rfl) (fun _ _ _ h => h) (Or.inl ⟨by rfl, ?hy2⟩) (by assumption) ?rest2
  case hy2 => (intro w hSw; (try dsimp only at hSw); go_simp; first | done | with_reducible rfl)
  try simp only [Act.put, List.getElem_toArray, List.getElem_cons_succ, List.getElem_cons_zero, List.setIfInBounds_toArray, List.set_cons_zero, List.set_cons_succ]
  refine wpAnyH_take (i := 2) (v := ?vv3) rfl (by kernel_rfl) (by kernel_rfl) (by kernel_rfl) (fun _ _ _ h => h) (Or.inl ⟨by rfl, ?hy3⟩) (by assumption) ?rest3
  case hy3 => (intro w hSw; (try dsimp only at hSw); go_simp; first | done | with_reducible rfl)
  try simp only [Act.put, List.getElem_toArray, List.getElem_cons_succ, List.getElem_cons_zero, List.setIfInBounds_toArray, List.set_cons_zero, List.set_cons_succ]
  refine wpAnyH_take (i := 4) (v := ?vv4) rfl (by kernel_rfl) (by kernel_rfl) (by kernel_rfl) (fun _ _ _ h => h) (Or.inl ⟨by rfl, ?hy4⟩) (by assumption) ?rest4
  case hy4 => (intro w hSw; (try dsimp only at hSw); go_simp; first | done | with_reducible rfl)
  try simp only [Act.put, List.getElem_toArray, List.getElem_cons_succ, List.getElem_cons_zero, List.setIfInBounds_toArray, List.set_cons_zero, List.set_cons_succ]
  refine wpAnyH_take (i := 5) (v := ?vv5) rfl (by kernel_rfl) (by kernel_rfl) (by kernel_rfl) (fun _ _ _ h => h) (Or.inl ⟨by rfl, ?hy5⟩) (by assumption) ?rest5
  case hy5 => (intro w hSw; (try dsimp only at hSw); go_simp; first | done | with_reducible rfl)
  try simp only [Act.put, List.getElem_toArray, List.getElem_cons_succ, List.getElem_cons_zero, List.setIfInBounds_toArray, List.set_cons_zero, List.set_cons_succ]
  refine wpAnyH_take (i := 6) (v := ?vv6) rfl (by kernel_rfl) (by kernel_rfl) (by kernel_rfl) (fun _ _ _ h => h) (Or.inl ⟨by rfl, ?hy6⟩) (by assumption) ?rest6
  case hy6 => (intro w hSw; (try dsimp only at hSw); go_simp; first | done | with_reducible rfl)
  try simp only [Act.put, List.getElem_toArray, List.getElem_cons_succ, List.getElem_cons_zero, List.setIfInBounds_toArray, List.set_cons_zero, List.set_cons_succ]
  refine wpAnyH_take (i := 9) (v := ?vv7) rfl (by kernel_rfl) (by kernel_rfl) (by kernel_rfl) (fun _ _ _ h => h) (Or.inl ⟨by rfl, ?hy7⟩) (by assumption) ?rest7
  case hy7 => (intro w hSw; (try dsimp only at hSw); go_simp; first | done | with_reducible rfl)
  try simp only [Act.put, List.getElem_toArray, List.getElem_cons_succ, List.getElem_cons_zero, List.setIfInBounds_toArray, List.set_cons_zero, List.set_cons_succ]
  refine wpAnyH_take (i := 10) (v := ?vv8) rfl (by kernel_rfl) (by kernel_rfl) (by kernel_rfl) (fun _ _ _ h => h) (Or.inl ⟨by rfl, ?hy8⟩) (by assumption) ?rest8
  case hy8 => (intro w hSw; (try dsimp only at hSw); go_simp; first | done | with_reducible rfl)
  try simp only [Act.put, List.getElem_toArray, List.getElem_cons_succ, List.getElem_cons_zero, List.setIfInBounds_toArray, List.set_cons_zero, List.set_cons_succ]
  refine wpAnyH_ready (rs := [3]) (by kernel_rfl) (by simp) ?_
  refine AllReadyH.cons rfl (fun K hK => ?_) AllReadyH.nil
  go_simp
  refine (N1.out _ B0.out).mono ?_
  rintro e wq1 ⟨rfl, bq⟩
  have BQ1 := hid (below_on B0.out bq)
  clear bq hHeld
  go_wp2_with fail
  refine hK.out _ _ (ZC.out _ BQ1.out) (fun hHeld => ?_)
  clear hK K
  try simp only [Act.put, List.getElem_toArray, List.getElem_cons_succ, List.getElem_cons_zero, List.setIfInBounds_toArray, List.set_cons_zero, List.set_cons_succ]
  refine wpAnyH_ready (rs := [7]) (by kernel_rfl) (by simp) ?_
  refine AllReadyH.cons rfl (fun K hK => ?_) AllReadyH.nil
  go_simp
  refine (N2.out _ BQ1.out).mono ?_
  rintro e wq2 ⟨rfl, bq⟩
  have BQ2 := hid (below_on BQ1.out bq)
  clear bq hHeld
  go_wp2_with fail
  refine hK.out _ _ (ZC.out _ BQ2.out) (fun hHeld => ?_)
  clear hK K
  try simp only [Act.put, List.getElem_toArray, List.getElem_cons_succ, List.getElem_cons_zero, List.setIfInBounds_toArray, List.set_cons_zero, List.set_cons_succ]
  refine wpAnyH_take (i := 8) (v := ?vv9) rfl (by kernel_rfl) (by kernel_rfl) (by kernel_rfl) (fun _ _ _ h => h) (Or.inl ⟨by rfl, ?hy9⟩) (by assumption) ?rest9
  case hy9 => (intro w hSw; (try dsimp only at hSw); go_simp; first | done | with_reducible rfl)
  try simp only [Act.put, List.getElem_toArray, List.getElem_cons_succ, List.getElem_cons_zero, List.setIfInBounds_toArray, List.set_cons_zero, List.set_cons_succ]
  refine wpAnyH_ready (rs := [11]) (by kernel_rfl) (by simp) ?_
  refine AllReadyH.cons rfl (fun K hK => ?_) AllReadyH.nil
  go_simp
  refine (N3.out _ BQ2.out).mono ?_
  rintro e wq3 ⟨rfl, bq⟩
  have BQ3 := hid (below_on BQ2.out bq)
  clear bq hHeld
  go_wp2_with fail
  refine hK.out _ _ (ZC.out _ BQ3.out) (fun hHeld => ?_)
  clear hK K
  try simp only [Act.put, List.getElem_toArray, List.getElem_cons_succ, List.getElem_cons_zero, List.setIfInBounds_toArray, List.set_cons_zero, List.set_cons_succ]
  refine wpAnyH_take (i := 12) (v := ?vv10) rfl (by kernel_rfl) (by kernel_rfl) (by kernel_rfl) (fun _ _ _ h => h) (Or.inl ⟨by rfl, ?hy10⟩) (by assumption) ?rest10
  case hy10 => (intro w hSw; (try dsimp only at hSw); go_simp; first | done | with_reducible rfl)
  try simp only [Act.put, List.getElem_toArray, List.getElem_cons_succ, List.getElem_cons_zero, List.setIfInBounds_toArray, List.set_cons_zero, List.set_cons_succ]
  refine wpAnyH_ready (rs := [13]) (by kernel_rfl) (by simp) ?_
  refine AllReadyH.cons rfl (fun K hK => ?_) AllReadyH.nil
  go_simp
  refine (F.out _ BQ3.out).mono ?_
  rintro e wq4 ⟨rfl, bq⟩
  have BQ4 := hid (below_on BQ3.out bq)
  clear bq hHeld
  go_wp2_with fail
  refine hK.out _ _ (ZC.out _ BQ4.out) (fun hHeld => ?_)
  clear hK K
  try simp only [Act.put, List.getElem_toArray, List.getElem_cons_succ, List.getElem_cons_zero, List.setIfInBounds_toArray, List.set_cons_zero, List.set_cons_succ]
  refine wpAnyH_take (i := 14) (v := ?vv11) rfl (by kernel_rfl) (by kernel_rfl) (by kernel_rfl) (fun _ _ _ h => h) (Or.inl ⟨by rfl, ?hy11⟩) (by assumption) ?rest11
  case hy11 => (intro w hSw; (try dsimp only at hSw); go_simp; first | done | with_reducible rfl)
  try simp only [Act.put, List.getElem_toArray, List.getElem_cons_succ, List.getElem_cons_zero, List.setIfInBounds_toArray, List.set_cons_zero, List.set_cons_succ]
  refine wpAnyH_done (by kernel_rfl) ?_ _
  go_wp2
  go_ret
  exact ⟨rfl, below_on BA.out BQ4.out⟩
end Go.Proofs.YtefbioainibmaaaGreatDoor
namespace Go.Proofs.YtefbioainibmaaaGreatDoor
open Go.RowKit Go.Maps
set_option linter.unusedVariables false
set_option linter.unusedSimpArgs false

/-- a base that is read; the error -/
structure RbR where
  ix : Nat
  tm : Nat
  e : Int
def rbR (s : ByteArray) : RbR := ⟨(dcN s 1099511627776 0 0).n, (dcN s 1099511627776 (dcN s 1099511627776 0 0).a (dcN s 1099511627776 0 0).e).n, endE s (dcN s 1099511627776 (dcN s 1099511627776 0 0).a (dcN s 1099511627776 0 0).e).a (dcN s 1099511627776 (dcN s 1099511627776 0 0).a (dcN s 1099511627776 0 0).e).e⟩
/-- an entry that is read; the error -/
structure ReR where
  tm : Nat
  kd : Nat
  da : ByteArray
  e : Int
def reR (s : ByteArray) : ReR :=
  let p := dcN s 1099511627776 0 0
  let q := dcN s 255 p.a p.e
  let t := tS s q.a q.e 65536
  ⟨p.n, q.n, t.x, endE s t.a t.e⟩

set_option maxRecDepth 100000 in
set_option maxHeartbeats 4000000 in
theorem readBase_any (s : ByteArray) (w : World) (hs : s.size ≤ 140737488355328) : Calls Tryz.prog 143 #[.string s] w fun q w' => q = .returned (.tuple #[.int .i64 ((rbR s).ix : Int), .int .i64 ((rbR s).tm : Int), .int .i64 (rbR s).e]) ∧ Below w.heap.size w w' := by
  have hsm : s.size ≤ maxLen := by unfold maxLen; omega
  have NW := hid (new_reader s w)
  have RI : Hid (∀ (m a e : Int) (W : World), RdAt W w.heap.size s a e → m ≤ 9223372036854775807 → Calls Tryz.prog 100 #[.pointer (some ⟨w.heap.size, 0, none⟩), .int .i64 m] W fun r w' => r = .returned (.int .i64 (dcN s m a e).n) ∧ RdAt w' w.heap.size s (dcN s m a e).a (dcN s m a e).e ∧ Only w.heap.size W w') := fun m a e W h hm => rd_int _ s a e m W h hsm hm (nS_int s a e m hm)
  have RE : Hid (∀ a e W, RdAt W w.heap.size s a e → Calls Tryz.prog 101 #[.pointer (some ⟨w.heap.size, 0, none⟩)] W fun r w' => r = .returned (.int .i64 (endE s a e)) ∧ RdAt w' w.heap.size s a (endE s a e) ∧ Only w.heap.size W w') := fun a e W h => rd_end _ s a e W h
  have R1 := hid (fun W h => RI.out 1099511627776 0 0 W h (by omega))
  have R2 := hid (fun W h => RI.out 1099511627776 (dcN s 1099511627776 0 0).a (dcN s 1099511627776 0 0).e W h (by omega))
  have R3 := hid (RE.out (dcN s 1099511627776 (dcN s 1099511627776 0 0).a (dcN s 1099511627776 0 0).e).a (dcN s 1099511627776 (dcN s 1099511627776 0 0).a (dcN s 1099511627776 0 0).e).e)
  unfold rbR
  clear RI RE hs hsm
  generalize dcN s 1099511627776 (dcN s 1099511627776 0 0).a (dcN s 1099511627776 0 0).e = D2 at *
  generalize dcN s 1099511627776 0 0 = D1 at *
  obtain ⟨a1, e1, n1⟩ := D1
  obtain ⟨a2, e2, n2⟩ := D2
  simp only at *
  generalize endE s a2 e2 = en at *
  go_enter Tryz.func143, Tryz.ntmps143
  go_wp2_with fail
  refine NW.out.mono ?_
  rintro q1 w1 ⟨rfl, h1, b1⟩
  have S1 : Hid (RdAt w1 w.heap.size s 0 0 ∧ Below w.heap.size w w1) := ⟨h1, b1⟩
  clear NW h1 b1
  go_wp2_with fail
  refine (R1.out _ S1.out.1).mono ?_
  rintro q2 w2 ⟨rfl, h2, o2⟩
  have S2 : Hid (RdAt w2 w.heap.size s a1 e1 ∧ Below w.heap.size w w2) := ⟨h2, S1.out.2.trans (o2.below (Nat.le_refl _) S1.out.2.size)⟩
  clear R1 S1 h2 o2
  go_wp2_with fail
  refine (R2.out _ S2.out.1).mono ?_
  rintro q3 w3 ⟨rfl, h3, o3⟩
  have S3 : Hid (RdAt w3 w.heap.size s a2 e2 ∧ Below w.heap.size w w3) := ⟨h3, S2.out.2.trans (o3.below (Nat.le_refl _) S2.out.2.size)⟩
  clear R2 S2 h3 o3
  go_wp2_with fail
  refine (R3.out _ S3.out.1).mono ?_
  rintro q4 w4 ⟨rfl, h4, o4⟩
  have B4 : Hid (Below w.heap.size w w4) := S3.out.2.trans (o4.below (Nat.le_refl _) S3.out.2.size)
  clear R3 S3 h4 o4
  go_wp2
  go_ret3
  exact ⟨rfl, B4.out⟩

theorem ret_ctw {fn : Func} {p u : Tmp} {ty : TypeId} (h : fn.results = #[.cell p ty, .tmp u]) (tmps : Array Value) (w : World) (g : Nat) (cs : Array Value) (x : Value)
    (hp : tmps.getD p undef = .pointer (some ⟨g, 0, none⟩)) (hx : tmps.getD u undef = x) (hg : (loadVar ty ⟨g, 0, none⟩).run Tryz.prog w = .ok (.agg cs) w) :
    (results fn tmps).run Tryz.prog w = .ok (.tuple #[.agg cs, x]) w := by
  rw [results_cell_tmp h, hp, hx]
  simp [asAddr, hg, Result.andThen]
structure ReS (w : World) (s : ByteArray) (a e : Int) (W : World) : Prop where
  rd : RdAt W (w.heap.size + 1) s a e
  rs : RowIs W w.heap.size [.int .i64 0, .int .i64 0, .string ⟨#[]⟩] 68
  bl : Below w.heap.size w W
theorem ReS.read {w W W' : World} {s : ByteArray} {a e a' e' : Int} (x : ReS w s a e W) (hr : RdAt W' (w.heap.size + 1) s a' e') (ho : Only (w.heap.size + 1) W W') : ReS w s a' e' W' :=
  ⟨hr, x.rs.keep ho.keep (by omega), x.bl.trans (ho.below (by omega) x.bl.size)⟩
theorem ReS.al {w W : World} {s : ByteArray} {a e : Int} (x : ReS w s a e W) (o : Obj) : ReS w s a e (W.alloc o) :=
  have B := below_al (Below.refl W.heap.size W) o
  x.read (x.rd.keeps B) (B.only _)
theorem ReS.fin {w W : World} {s : ByteArray} {a e : Int} (x : ReS w s a e W) (x0 x1 x2 : Value) : RowIs (((W.setCell ⟨w.heap.size, 0, none⟩ x0).setCell ⟨w.heap.size, 1, none⟩ x1).setCell ⟨w.heap.size, 2, none⟩ x2) w.heap.size [x0, x1, x2] 68 ∧ Below w.heap.size w (((W.setCell ⟨w.heap.size, 0, none⟩ x0).setCell ⟨w.heap.size, 1, none⟩ x1).setCell ⟨w.heap.size, 2, none⟩ x2) :=
  ⟨((x.rs.set 0 _).set 1 _).set 2 _, x.bl.trans (keep_below (((keep_setCell W _ 0 _).trans (keep_setCell _ _ 1 _)).trans (keep_setCell _ _ 2 _)) (fun j hj e => by omega) x.bl.size)⟩
set_option maxRecDepth 100000 in
set_option maxHeartbeats 4000000 in
theorem readEntry_any (s : ByteArray) (w : World) (hs : s.size ≤ 140737488355328) : Calls Tryz.prog 145 #[.string s] w fun q w' => q = .returned (.tuple #[.agg #[.int .i64 ((reR s).tm : Int), .int .i64 ((reR s).kd : Int), .string (reR s).da], .int .i64 (reR s).e]) ∧ Below w.heap.size w w' := by
  have hsm : s.size ≤ maxLen := by unfold maxLen; omega
  have NW : Hid (Calls Tryz.prog 99 #[.string s] (w.alloc (.cells #[.int .i64 0, .int .i64 0, .string ⟨#[]⟩] 68)) fun e w' => e = .returned (.pointer (some ⟨w.heap.size + 1, 0, none⟩)) ∧ ReS w s 0 0 w') := by
    have := new_reader s (w.alloc (.cells #[.int .i64 0, .int .i64 0, .string ⟨#[]⟩] 68))
    rw [show (w.alloc (.cells #[.int .i64 0, .int .i64 0, .string ⟨#[]⟩] 68)).heap.size = w.heap.size + 1 from by simp] at this
    refine this.mono fun e w' ⟨h1, h2, h3⟩ => ⟨h1, h2, ?_, ?_⟩
    · exact (srow w [.int .i64 0, .int .i64 0, .string ⟨#[]⟩] 68).keep ((by simpa using h3 : Below (w.alloc (.cells #[.int .i64 0, .int .i64 0, .string ⟨#[]⟩] 68)).heap.size (w.alloc (.cells #[.int .i64 0, .int .i64 0, .string ⟨#[]⟩] 68)) w').keep (fun _ => False)) (fun h => h)
    · exact below_on (below_al (Below.refl w.heap.size w) (.cells #[.int .i64 0, .int .i64 0, .string ⟨#[]⟩] 68)) (by simpa using h3)
  have RI : Hid (∀ (m a e : Int) (W : World), RdAt W (w.heap.size + 1) s a e → m ≤ 9223372036854775807 → Calls Tryz.prog 100 #[.pointer (some ⟨w.heap.size + 1, 0, none⟩), .int .i64 m] W fun r w' => r = .returned (.int .i64 (dcN s m a e).n) ∧ RdAt w' (w.heap.size + 1) s (dcN s m a e).a (dcN s m a e).e ∧ Only (w.heap.size + 1) W w') := fun m a e W h hm => rd_int _ s a e m W h hsm hm (nS_int s a e m hm)
  have RT : Hid (∀ (a e : Int) (W : World), RdAt W (w.heap.size + 1) s a e → Calls Tryz.prog 170 #[.pointer (some ⟨w.heap.size + 1, 0, none⟩), .int .i64 65536] W fun r w' => r = .returned (.string (tS s a e 65536).x) ∧ RdAt w' (w.heap.size + 1) s (tS s a e 65536).a (tS s a e 65536).e ∧ Only (w.heap.size + 1) W w') := fun a e W h => rd_text _ s a e 65536 W h hs
  have RE : Hid (∀ a e W, RdAt W (w.heap.size + 1) s a e → Calls Tryz.prog 101 #[.pointer (some ⟨w.heap.size + 1, 0, none⟩)] W fun r w' => r = .returned (.int .i64 (endE s a e)) ∧ RdAt w' (w.heap.size + 1) s a (endE s a e) ∧ Only (w.heap.size + 1) W w') := fun a e W h => rd_end _ s a e W h
  have R1 := hid (fun W h => RI.out 1099511627776 0 0 W h (by omega))
  have R2 := hid (fun W h => RI.out 255 (dcN s 1099511627776 0 0).a (dcN s 1099511627776 0 0).e W h (by omega))
  have R3 := hid (RT.out (dcN s 255 (dcN s 1099511627776 0 0).a (dcN s 1099511627776 0 0).e).a (dcN s 255 (dcN s 1099511627776 0 0).a (dcN s 1099511627776 0 0).e).e)
  have R4 := hid (RE.out (tS s (dcN s 255 (dcN s 1099511627776 0 0).a (dcN s 1099511627776 0 0).e).a (dcN s 255 (dcN s 1099511627776 0 0).a (dcN s 1099511627776 0 0).e).e 65536).a (tS s (dcN s 255 (dcN s 1099511627776 0 0).a (dcN s 1099511627776 0 0).e).a (dcN s 255 (dcN s 1099511627776 0 0).a (dcN s 1099511627776 0 0).e).e 65536).e)
  unfold reR
  simp only
  clear RI RT RE hs hsm
  generalize tS s (dcN s 255 (dcN s 1099511627776 0 0).a (dcN s 1099511627776 0 0).e).a (dcN s 255 (dcN s 1099511627776 0 0).a (dcN s 1099511627776 0 0).e).e 65536 = TX at *
  generalize dcN s 255 (dcN s 1099511627776 0 0).a (dcN s 1099511627776 0 0).e = D2 at *
  generalize dcN s 1099511627776 0 0 = D1 at *
  obtain ⟨a1, e1, n1⟩ := D1
  obtain ⟨a2, e2, n2⟩ := D2
  obtain ⟨a3, e3, da⟩ := TX
  simp only at *
  generalize endE s a3 e3 = en at *
  go_enter Tryz.func145, Tryz.ntmps145
  go_wp2_with fail
  refine NW.out.mono ?_
  rintro q1 w1 ⟨rfl, s1⟩
  have S1 := hid s1
  clear NW s1
  go_wp2_with fail
  refine (R1.out _ S1.out.rd).mono ?_
  rintro q2 w2 ⟨rfl, h2, o2⟩
  have S2 := hid (S1.out.read h2 o2)
  clear R1 S1 h2 o2
  go_wp2_with fail
  refine (R2.out _ S2.out.rd).mono ?_
  rintro q3 w3 ⟨rfl, h3, o3⟩
  have S3 := hid (S2.out.read h3 o3)
  clear R2 S2 h3 o3
  go_wp2_with fail
  refine (R3.out _ S3.out.rd).mono ?_
  rintro q4 w4 ⟨rfl, h4, o4⟩
  have S4 := hid ((S3.out.read h4 o4).al (.cells #[.int .i64 (n1 : Int), .int .i64 (n2 : Int), .string da] 68))
  have B4 := hid (srow w4 [.int .i64 (n1 : Int), .int .i64 (n2 : Int), .string da] 68)
  have HL : Hid (w.heap.size + 1 < w4.heap.size) := rd_lt h4
  clear R3 S3 h4 o4
  go_wp2_with fail
  generalize w4.alloc (.cells #[.int .i64 (n1 : Int), .int .i64 (n2 : Int), .string da] 68) = V at *
  generalize w4.heap.size = b at *
  have S4 : Hid (ReS w s a3 e3 V.drew) := ⟨S4.out.rd, S4.out.rs, S4.out.bl.drew⟩
  have B4 : Hid (RowIs V.drew b [.int .i64 (n1 : Int), .int .i64 (n2 : Int), .string da] 68) := B4.out
  have ZB : Hid (∀ W, ReS w s a3 e3 W → W = V.drew → (W.cell? ⟨b, 0, none⟩ = some (.int .i64 (n1 : Int)) ∧ W.cell? ⟨b, 1, none⟩ = some (.int .i64 (n2 : Int)) ∧ W.cell? ⟨b, 2, none⟩ = some (.string da))) := fun W _ h => by subst h; exact ⟨B4.out.cellAt (o := 0) rfl, B4.out.cellAt (o := 1) rfl, B4.out.cellAt (o := 2) rfl⟩
  refine wp_region_held_drew (S := fun W => W.cell? ⟨b, 0, none⟩ = some (.int .i64 (n1 : Int)) ∧ W.cell? ⟨b, 1, none⟩ = some (.int .i64 (n2 : Int)) ∧ W.cell? ⟨b, 2, none⟩ = some (.string da)) (by kernel_rfl) (ZB.out _ S4.out rfl) (fun hHeld => ?_)
  refine wpAnyH_take (i := 0) (v := ?vv1) rfl (by kernel_rfl) (by kernel_rfl) (by kernel_rfl) (fun _ _ _ h => h) (Or.inl ⟨by rfl, ?hy1⟩) (by assumption) ?rest1
  case hy1 => (intro w hSw; (try dsimp only at hSw); go_simp; first | done | with_reducible rfl)
  try simp only [Act.put, List.getElem_toArray, List.getElem_cons_succ, List.getElem_cons_zero, List.setIfInBounds_toArray, List.set_cons_zero, List.set_cons_succ]
  refine wpAnyH_take (i := 1) (v := ?vv2) rfl (by kernel_rfl) (by kernel_rfl) (by kernel_rfl) (fun _ _ _ h => h) (Or.inl ⟨by rfl, ?hy2⟩) (by assumption) ?rest2
  case hy2 => (intro w hSw; (try dsimp only at hSw); go_simp; first | done | with_reducible rfl)
  try simp only [Act.put, List.getElem_toArray, List.getElem_cons_succ, List.getElem_cons_zero, List.setIfInBounds_toArray, List.set_cons_zero, List.set_cons_succ]
  refine wpAnyH_ready (rs := [2]) (by kernel_rfl) (by simp) ?_
  refine AllReadyH.cons rfl (fun K hK => ?_) AllReadyH.nil
  go_simp
  refine (R4.out _ S4.out.rd).mono ?_
  rintro q5 w5 ⟨rfl, h5, o5⟩
  have S5 := hid (S4.out.read h5 o5)
  have B5 := hid (B4.out.keep o5.keep (by have := HL.out; omega))
  have Z5 : (w5.cell? ⟨b, 0, none⟩ = some (.int .i64 (n1 : Int)) ∧ w5.cell? ⟨b, 1, none⟩ = some (.int .i64 (n2 : Int)) ∧ w5.cell? ⟨b, 2, none⟩ = some (.string da)) := ⟨B5.out.cellAt (o := 0) rfl, B5.out.cellAt (o := 1) rfl, B5.out.cellAt (o := 2) rfl⟩
  clear R4 h5 o5 hHeld
  go_wp2_with fail
  refine hK.out _ _ Z5 (fun hHeld => ?_)
  clear hK K
  try simp only [Act.put, List.getElem_toArray, List.getElem_cons_succ, List.getElem_cons_zero, List.setIfInBounds_toArray, List.set_cons_zero, List.set_cons_succ]
  have d0 := S5.out.rs.cellAt (o := 0) rfl
  have d1 := S5.out.rs.cellAt (o := 1) rfl
  have d2 := S5.out.rs.cellAt (o := 2) rfl
  have f0 : w5.frozen? ⟨w.heap.size, 0, none⟩ = false := S5.out.rs.frozen
  have f1 : w5.frozen? ⟨w.heap.size, 1, none⟩ = false := S5.out.rs.frozen
  have f2 : w5.frozen? ⟨w.heap.size, 2, none⟩ = false := S5.out.rs.frozen
  have HNE : b ≠ w.heap.size := by have := HL.out; omega
  have FB := hid (S5.out.fin (.int .i64 (n1 : Int)) (.int .i64 (n2 : Int)) (.string da))
  have ZZ : Hid (∀ W, Keep (· = w.heap.size) w5 W → (W.cell? ⟨b, 0, none⟩ = some (.int .i64 (n1 : Int)) ∧ W.cell? ⟨b, 1, none⟩ = some (.int .i64 (n2 : Int)) ∧ W.cell? ⟨b, 2, none⟩ = some (.string da))) := fun W k => by
    have q := B5.out.keep k HNE
    exact ⟨q.cellAt (o := 0) rfl, q.cellAt (o := 1) rfl, q.cellAt (o := 2) rfl⟩
  have ZF := hid (ZZ.out _ (((keep_setCell w5 w.heap.size 0 (.int .i64 (n1 : Int))).trans (keep_setCell _ _ 1 (.int .i64 (n2 : Int)))).trans (keep_setCell _ _ 2 (.string da))))
  clear ZZ S5 B5 S4 B4 HL ZB
  refine wpAnyH_ready (rs := [3]) (by kernel_rfl) (by simp) ?_
  refine AllReadyH.cons rfl (fun K hK => ?_) AllReadyH.nil
  go_simp
  refine hK.out _ _ ZF.out (fun hHeld => ?_)
  clear hK K
  try simp only [Act.put, List.getElem_toArray, List.getElem_cons_succ, List.getElem_cons_zero, List.setIfInBounds_toArray, List.set_cons_zero, List.set_cons_succ]
  refine wpAnyH_take (i := 4) (v := ?vv3) rfl (by kernel_rfl) (by kernel_rfl) (by kernel_rfl) (fun _ _ _ h => h) (Or.inl ⟨by rfl, ?hy3⟩) (by assumption) ?rest3
  case hy3 => (intro w hSw; (try dsimp only at hSw); go_simp; first | done | with_reducible rfl)
  try simp only [Act.put, List.getElem_toArray, List.getElem_cons_succ, List.getElem_cons_zero, List.setIfInBounds_toArray, List.set_cons_zero, List.set_cons_succ]
  refine wpAnyH_done (by kernel_rfl) ?_ _
  go_wp2
  exact bodyPost_ret (ret_ctw (p := 2) (u := 3) rfl _ _ w.heap.size #[.int .i64 (n1 : Int), .int .i64 (n2 : Int), .string da] (.int .i64 en) rfl rfl (run_loadVar_row _ _ _ _ _ _ _ FB.out.1 Tryz.underlying68 rfl (by kernel_rfl))) rfl ⟨rfl, FB.out.2⟩
end Go.Proofs.YtefbioainibmaaaGreatDoor
