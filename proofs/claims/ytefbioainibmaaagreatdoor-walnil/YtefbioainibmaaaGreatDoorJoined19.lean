/- Joined: What is hard: the term and the vote. What is hard on a disk. A segment's file, taken apart. A segment's file, taken apart: the walk. Rows that a log owns: whole ones, and beginnings of such, cut at their end. -/
import Derived.Test.YtefbioainibmaaaGreatDoorWlE
import Derived.Test.YtefbioainibmaaaGreatDoorJoined17
import Derived.Test.YtefbioainibmaaaGreatDoorJoined18
import Derived.Test.YtefbioainibmaaaGreatDoorJoined05
import Derived.Test.YtefbioainibmaaaGreatDoorGApR
namespace Go.Proofs.YtefbioainibmaaaGreatDoor
open Go.RowKit Go.Maps
set_option linter.unusedVariables false
set_option linter.unusedSimpArgs false

/-- the files of what is hard; its bytes -/
def hnw : Bs := [104, 97, 114, 100, 46, 110, 101, 119]
def hrd : Bs := [104, 97, 114, 100]
def hdB (tm vt : Nat) : Bs := frm (put tm ++ put vt)
/-- a term and a vote that may be -/
def hdOk (tm v : Int) : Bool := tmOk tm && decide (-1 ≤ v) && decide (v < 7)
set_option maxRecDepth 100000 in
set_option maxHeartbeats 1000000 in
theorem hmayBe_any (tm v : Int) (w : World) : Calls Tryz.prog 77 #[.agg #[.int .i64 tm, .int .i64 v]] w fun e w' => e = .returned (.bool (hdOk tm v)) ∧ Below w.heap.size w w' := by
  have HB : Hid (Below w.heap.size w (w.alloc (.cells #[.int .i64 tm, .int .i64 v] 98))) := below_al (Below.refl _ _) _
  have IT := hid (isTerm_any tm (w.alloc (.cells #[.int .i64 tm, .int .i64 v] 98)))
  unfold hdOk
  cases ht : tmOk tm with
  | false =>
    rw [ht] at IT
    go_enter Tryz.func77, Tryz.ntmps77
    go_wp2_with fail
    refine IT.out.mono ?_
    rintro e w1 ⟨rfl, rfl⟩
    go_wp2
    go_ret
    exact ⟨rfl, HB.out⟩
  | true =>
    rw [ht] at IT
    by_cases h1 : -1 ≤ v
    · have d1 : decide (-1 ≤ v) = true := decide_eq_true h1
      by_cases h2 : v < 7
      · have d2 : decide (v < 7) = true := decide_eq_true h2
        rw [d1, d2]
        go_enter Tryz.func77, Tryz.ntmps77
        go_wp2_with fail
        refine IT.out.mono ?_
        rintro e w1 ⟨rfl, rfl⟩
        go_wp2
        go_ret
        exact ⟨rfl, HB.out⟩
      · have d2 : decide (v < 7) = false := decide_eq_false h2
        rw [d1, d2]
        go_enter Tryz.func77, Tryz.ntmps77
        go_wp2_with fail
        refine IT.out.mono ?_
        rintro e w1 ⟨rfl, rfl⟩
        go_wp2
        go_ret
        exact ⟨rfl, HB.out⟩
    · have d1 : decide (-1 ≤ v) = false := decide_eq_false h1
      rw [d1]
      go_enter Tryz.func77, Tryz.ntmps77
      go_wp2_with fail
      refine IT.out.mono ?_
      rintro e w1 ⟨rfl, rfl⟩
      go_wp2
      go_ret
      exact ⟨rfl, HB.out⟩
set_option maxRecDepth 100000 in
set_option maxHeartbeats 1600000 in
theorem hlay_any (p : Nat) (c : Nat → Nat) (d : Ds) (tm vt : Nat) (v : Int) (w : World) (h : DiskIs w c p d) (h1 : tm < 9223372036854775808) (h2 : vt < 9223372036854775808) (hv : v + 1 = (vt : Int)) (hL : LyOk d hnw hrd (hdB tm vt)) : Calls Tryz.prog 78 #[.agg #[.int .i64 (tm : Int), .int .i64 v], .pointer (some ⟨p, 0, none⟩)] w fun e w' => e = .returned (.int .i64 (layD d hnw hrd (hdB tm vt)).2) ∧ Left w c p (layD d hnw hrd (hdB tm vt)).1 w' := by
  have u1 : IntKind.u64.wrap (tm : Int) = (tm : Int) := by rw [IntKind.wrap_u64]; omega
  have u2 : IntKind.u64.wrap (vt : Int) = (vt : Int) := by rw [IntKind.wrap_u64]; omega
  have u3 : IntKind.i64.wrap (vt : Int) = (vt : Int) := by rw [IntKind.wrap_i64]; omega
  have hv1 : (vt : Int) - 1 = v := by omega
  have hv2 : (vt : Int) ≤ 9223372036854775807 := by omega
  have hv3 : v - -1 = (vt : Int) := by omega
  have hv4 : (-1 : Int) ≤ v := by omega
  have R0 := hid (srow w [.int .i64 (tm : Int), .int .i64 v] 98)
  have DI := hid h
  have N1 : Hid (∀ W, Below (w.alloc (.cells #[.int .i64 (tm : Int), .int .i64 v] 98)).heap.size (w.alloc (.cells #[.int .i64 (tm : Int), .int .i64 v] 98)) W → _) := fun W _ => number_any tm W (by omega)
  have N2 : Hid (∀ W, Below (w.alloc (.cells #[.int .i64 (tm : Int), .int .i64 v] 98)).heap.size (w.alloc (.cells #[.int .i64 (tm : Int), .int .i64 v] 98)) W → _) := fun W _ => number_any vt W (by omega)
  have l1 := (put_len tm).2
  have l2 := (put_len vt).2
  have AD := fun W => add_ls (put tm) (put vt) W (by omega)
  have F : Hid (∀ W, Below (w.alloc (.cells #[.int .i64 (tm : Int), .int .i64 v] 98)).heap.size (w.alloc (.cells #[.int .i64 (tm : Int), .int .i64 v] 98)) W → _) := fun W _ => framed_any (put tm ++ put vt) W (by rw [List.length_append]; omega)
  have LY : Hid (∀ W c, DiskIs W c p d → Calls Tryz.prog 121 #[.pointer (some ⟨p, 0, none⟩), .string ⟨#[104, 97, 114, 100, 46, 110, 101, 119]⟩, .string ⟨#[104, 97, 114, 100]⟩, .string ⟨(frm (put tm ++ put vt)).toArray⟩] W fun e w' => e = .returned (.int .i64 (layD d hnw hrd (hdB tm vt)).2) ∧ Left W c p (layD d hnw hrd (hdB tm vt)).1 w') := fun W c D => lay_any p c d hnw hrd (hdB tm vt) W D hL.m0 hL.n0 hL.m1 hL.m2 hL.n2 hL.m3
  have BA : Hid (Keep (fun _ => False) w (w.alloc (.cells #[.int .i64 (tm : Int), .int .i64 v] 98))) := keep_alloc _ _ _
  clear h1 h2 l1 l2 h hL
  generalize layD d hnw hrd (hdB tm vt) = q at *
  generalize put tm ++ put vt = B at *
  generalize put tm = X at *
  generalize put vt = Y at *
  generalize frm B = Z at *
  go_enter Tryz.func78, Tryz.ntmps78
  go_wp2_with fail
  generalize w.alloc (.cells #[.int .i64 (tm : Int), .int .i64 v] 98) = V at *
  have B0 : Hid (Below V.heap.size V V.drew) := (Below.refl _ _).drew
  have ZC : Hid (∀ W, Below V.heap.size V W → (W.cell? ⟨w.heap.size, 0, none⟩ = some (.int .i64 (tm : Int)) ∧ W.cell? ⟨w.heap.size, 1, none⟩ = some (.int .i64 v))) := fun W hW => by
    have q := R0.out.keep (hW.keep (fun _ => False)) (fun h => h)
    exact ⟨q.cellAt (o := 0) rfl, q.cellAt (o := 1) rfl⟩
  refine wp_region_held_drew (S := fun W => W.cell? ⟨w.heap.size, 0, none⟩ = some (.int .i64 (tm : Int)) ∧ W.cell? ⟨w.heap.size, 1, none⟩ = some (.int .i64 v)) (by kernel_rfl) (ZC.out _ B0.out) (fun hHeld => ?_)
  refine wpAnyH_take (i := 0) (v := ?vv1) rfl (by kernel_rfl) (by kernel_rfl) (by kernel_rfl) (fun _ _ _ h => h) (Or.inl ⟨by rfl, ?hy1⟩) (by assumption) ?rest1
  case hy1 => (intro w hSw; (try dsimp only at hSw); go_simp; first | done | with_reducible rfl)
  try simp only [Act.put, List.getElem_toArray, List.getElem_cons_succ, List.getElem_cons_zero, List.setIfInBounds_toArray, List.set_cons_zero, List.set_cons_succ]
  refine wpAnyH_take (i := 1) (v := ?vv2) rfl (by kernel_rfl) (by kernel_rfl) (by kernel_rfl) (fun _ _ _ h => h) (Or.inl ⟨by rfl, ?hy2⟩) (by assumption) ?rest2
  case hy2 => (intro w hSw; (try dsimp only at hSw); go_simp; first | done | with_reducible rfl)
  try simp only [Act.put, List.getElem_toArray, List.getElem_cons_succ, List.getElem_cons_zero, List.setIfInBounds_toArray, List.set_cons_zero, List.set_cons_succ]
  refine wpAnyH_take (i := 2) (v := ?vv3) rfl (by kernel_rfl) (by kernel_rfl) (by kernel_rfl) (fun _ _ _ h => h) (Or.inl ⟨by rfl, ?hy3⟩) (by assumption) ?rest3
  case hy3 => (intro w hSw; (try dsimp only at hSw); go_simp; first | done | with_reducible rfl)
  try simp only [Act.put, List.getElem_toArray, List.getElem_cons_succ, List.getElem_cons_zero, List.setIfInBounds_toArray, List.set_cons_zero, List.set_cons_succ]
  refine wpAnyH_take (i := 4) (v := ?vv4) rfl (by kernel_rfl) (by kernel_rfl) (by kernel_rfl) (fun _ _ _ h => h) (Or.inl ⟨by rfl, ?hy4⟩) (by assumption) ?rest4
  case hy4 => (intro w hSw; (try dsimp only at hSw); go_simp; first | done | with_reducible rfl)
  try simp only [Act.put, List.getElem_toArray, List.getElem_cons_succ, List.getElem_cons_zero, List.setIfInBounds_toArray, List.set_cons_zero, List.set_cons_succ]
  refine wpAnyH_take (i := 5) (v := ?vv5) rfl (by kernel_rfl) (by kernel_rfl) (by kernel_rfl) (fun _ _ _ h => h) (Or.inl ⟨by rfl, ?hy5⟩) (by assumption) ?rest5
  case hy5 => (intro w hSw; (try dsimp only at hSw); go_simp; first | done | with_reducible rfl)
  try simp only [Act.put, List.getElem_toArray, List.getElem_cons_succ, List.getElem_cons_zero, List.setIfInBounds_toArray, List.set_cons_zero, List.set_cons_succ]
  refine wpAnyH_take (i := 6) (v := ?vv6) rfl (by kernel_rfl) (by kernel_rfl) (by kernel_rfl) (fun _ _ _ h => h) (Or.inl ⟨by rfl, ?hy6⟩) (by assumption) ?rest6
  case hy6 => (intro w hSw; (try dsimp only at hSw); go_simp; first | done | with_reducible rfl)
  try simp only [Act.put, List.getElem_toArray, List.getElem_cons_succ, List.getElem_cons_zero, List.setIfInBounds_toArray, List.set_cons_zero, List.set_cons_succ]
  refine wpAnyH_take (i := 7) (v := ?vv7) rfl (by kernel_rfl) (by kernel_rfl) (by kernel_rfl) (fun _ _ _ h => h) (Or.inl ⟨by rfl, ?hy7⟩) (by assumption) ?rest7
  case hy7 => (intro w hSw; (try dsimp only at hSw); go_simp; first | done | with_reducible rfl)
  try simp only [Act.put, List.getElem_toArray, List.getElem_cons_succ, List.getElem_cons_zero, List.setIfInBounds_toArray, List.set_cons_zero, List.set_cons_succ]
  refine wpAnyH_ready (rs := [3]) (by kernel_rfl) (by simp) ?_
  refine AllReadyH.cons rfl (fun K hK => ?_) AllReadyH.nil
  go_simp
  refine (N1.out _ B0.out).mono ?_
  rintro e wq1 ⟨rfl, bq⟩
  have BQ1 := hid (below_on B0.out bq)
  clear bq hHeld
  go_wp2_with fail
  refine hK.out _ _ (ZC.out _ BQ1.out) (fun hHeld => ?_)
  clear hK K
  try simp only [Act.put, List.getElem_toArray, List.getElem_cons_succ, List.getElem_cons_zero, List.setIfInBounds_toArray, List.set_cons_zero, List.set_cons_succ]
  refine wpAnyH_ready (rs := [8]) (by kernel_rfl) (by simp) ?_
  refine AllReadyH.cons rfl (fun K hK => ?_) AllReadyH.nil
  go_simp
  refine (N2.out _ BQ1.out).mono ?_
  rintro e wq2 ⟨rfl, bq⟩
  have BQ2 := hid (below_on BQ1.out bq)
  clear bq hHeld
  go_wp2_with fail
  refine hK.out _ _ (ZC.out _ BQ2.out) (fun hHeld => ?_)
  clear hK K
  try simp only [Act.put, List.getElem_toArray, List.getElem_cons_succ, List.getElem_cons_zero, List.setIfInBounds_toArray, List.set_cons_zero, List.set_cons_succ]
  refine wpAnyH_take (i := 9) (v := ?vv8) rfl (by kernel_rfl) (by kernel_rfl) (by kernel_rfl) (fun _ _ _ h => h) (Or.inl ⟨by rfl, ?hy8⟩) (by assumption) ?rest8
  case hy8 => (intro w hSw; (try dsimp only at hSw); go_simp; first | done | with_reducible rfl)
  try simp only [Act.put, List.getElem_toArray, List.getElem_cons_succ, List.getElem_cons_zero, List.setIfInBounds_toArray, List.set_cons_zero, List.set_cons_succ]
  refine wpAnyH_ready (rs := [10]) (by kernel_rfl) (by simp) ?_
  refine AllReadyH.cons rfl (fun K hK => ?_) AllReadyH.nil
  go_simp
  refine (F.out _ BQ2.out).mono ?_
  rintro e wq3 ⟨rfl, bq⟩
  have BQ3 := hid (below_on BQ2.out bq)
  clear bq hHeld
  go_wp2_with fail
  refine hK.out _ _ (ZC.out _ BQ3.out) (fun hHeld => ?_)
  clear hK K
  try simp only [Act.put, List.getElem_toArray, List.getElem_cons_succ, List.getElem_cons_zero, List.setIfInBounds_toArray, List.set_cons_zero, List.set_cons_succ]
  refine wpAnyH_take (i := 11) (v := ?vv9) rfl (by kernel_rfl) (by kernel_rfl) (by kernel_rfl) (fun _ _ _ h => h) (Or.inl ⟨by rfl, ?hy9⟩) (by assumption) ?rest9
  case hy9 => (intro w hSw; (try dsimp only at hSw); go_simp; first | done | with_reducible rfl)
  try simp only [Act.put, List.getElem_toArray, List.getElem_cons_succ, List.getElem_cons_zero, List.setIfInBounds_toArray, List.set_cons_zero, List.set_cons_succ]
  refine wpAnyH_done (by kernel_rfl) ?_ _
  go_wp2_with fail
  have KK := hid (BA.out.trans (BQ3.out.keep (fun _ => False)))
  have L0 := hid (left_same DI.out KK.out)
  clear KK DI R0 BA ZC
  refine (stepL L0.out LY.out).mono ?_
  rintro e w9 ⟨rfl, hL⟩
  have L9 := hid hL
  clear hL L0 LY
  go_wp2
  go_ret
  exact ⟨rfl, L9.out⟩
end Go.Proofs.YtefbioainibmaaaGreatDoor
namespace Go.Proofs.YtefbioainibmaaaGreatDoor
open Go.RowKit Go.Maps
set_option linter.unusedVariables false
set_option linter.unusedSimpArgs false

theorem two {W : World} {g : Nat} {v0 v1 : Value} {t : TypeId} (h : RowIs W g [v0, v1] t) (x0 x1 : Value) : RowIs ((W.setCell ⟨g, 0, none⟩ x0).setCell ⟨g, 1, none⟩ x1) g [x0, x1] t ∧ Keep (· = g) W ((W.setCell ⟨g, 0, none⟩ x0).setCell ⟨g, 1, none⟩ x1) :=
  ⟨(h.set 0 x0).set 1 x1, (keep_setCell _ _ _ _).trans (keep_setCell _ _ _ _)⟩
/-- a term and a vote that are read; the error -/
structure RhR where
  tm : Int
  vt : Int
  e : Int
/-- out of a frame's body -/
def rhB (b : ByteArray) : RhR :=
  if endE b (dcN b 7 (dcN b 1099511627776 0 0).a (dcN b 1099511627776 0 0).e).a (dcN b 7 (dcN b 1099511627776 0 0).a (dcN b 1099511627776 0 0).e).e = 0 then ⟨(dcN b 1099511627776 0 0).n, ((dcN b 7 (dcN b 1099511627776 0 0).a (dcN b 1099511627776 0 0).e).n : Int) - 1, 0⟩ else ⟨0, 0, 31⟩
/-- out of what the disk tells of the file -/
def rhR (D : Bs × Int) : RhR :=
  if D.2 = 4 then ⟨0, -1, 0⟩ else if D.2 = 0 then if (unfAt (tx D.1) 0).e = 0 ∧ (unfAt (tx D.1) 0).to = ((tx D.1).size : Int) then rhB (unfAt (tx D.1) 0).x else ⟨0, 0, 31⟩ else ⟨0, 0, D.2⟩
structure RhS (w : World) (g : Nat) (s : ByteArray) (a e : Int) (W : World) : Prop where
  rd : RdAt W g s a e
  rs : RowIs W w.heap.size [.int .i64 0, .int .i64 0] 98
  kp : Keep (fun _ => False) w W
  lo : w.heap.size < g
theorem RhS.read {w W W' : World} {g : Nat} {s : ByteArray} {a e a' e' : Int} (x : RhS w g s a e W) (hr : RdAt W' g s a' e') (ho : Only g W W') : RhS w g s a' e' W' :=
  ⟨hr, x.rs.keep ho.keep (by have := x.lo; omega), x.kp.then ho.keep (fun j hj e => by have := x.lo; omega), x.lo⟩
theorem RhS.al {w W : World} {g : Nat} {s : ByteArray} {a e : Int} (x : RhS w g s a e W) (o : Obj) : RhS w g s a e (W.alloc o) :=
  have B := below_al (Below.refl W.heap.size W) o
  x.read (x.rd.keeps B) (B.only _)
set_option maxRecDepth 100000 in
set_option maxHeartbeats 4000000 in
theorem readHard_any (p : Nat) (c : Nat → Nat) (d : Ds) (w : World) (h : DiskIs w c p d) (hz : (rdD d hrd).1.length ≤ 1000000000) : Calls Tryz.prog 51 #[.pointer (some ⟨p, 0, none⟩)] w fun q w' => q = .returned (.tuple #[.agg #[.int .i64 (rhR (rdD d hrd)).tm, .int .i64 (rhR (rdD d hrd)).vt], .int .i64 (rhR (rdD d hrd)).e]) ∧ Keep (fun _ => False) w w' := by
  have K0 : Hid (Keep (fun _ => False) w (w.alloc (.cells #[.int .i64 0, .int .i64 0] 98))) := keep_alloc _ _ _
  have R0 := hid (srow w [.int .i64 0, .int .i64 0] 98)
  obtain ⟨⟨ci, DI, _⟩, _⟩ := left_same h K0.out
  have RD : Hid (Calls Tryz.prog 42 #[.pointer (some ⟨p, 0, none⟩), .string ⟨#[104, 97, 114, 100]⟩] (w.alloc (.cells #[.int .i64 0, .int .i64 0] 98)) fun e w' => e = .returned (.tuple #[.string (tx (rdD d hrd).1), .int .i64 (rdD d hrd).2]) ∧ Keep (fun _ => False) (w.alloc (.cells #[.int .i64 0, .int .i64 0] 98)) w') := read_any p ci d hrd _ DI
  have hsz : (tx (rdD d hrd).1).size ≤ 1000000000 := by show (rdD d hrd).1.toArray.size ≤ _; simpa using hz
  have HR : Hid (rhR (rdD d hrd) = if (rdD d hrd).2 = 4 then ⟨0, -1, 0⟩ else if (rdD d hrd).2 = 0 then if (unfAt (tx (rdD d hrd).1) 0).e = 0 ∧ (unfAt (tx (rdD d hrd).1) 0).to = ((tx (rdD d hrd).1).size : Int) then rhB (unfAt (tx (rdD d hrd).1) 0).x else ⟨0, 0, 31⟩ else ⟨0, 0, (rdD d hrd).2⟩) := rfl
  have UF := hid (fun W => unframe_any (tx (rdD d hrd).1) 0 W (by omega))
  have HSX : Hid ((unfAt (tx (rdD d hrd).1) 0).x.size ≤ 1000000000) := Nat.le_trans (unf_to_le _).2 hsz
  clear h hz DI hsz
  generalize rhR (rdD d hrd) = R at *
  generalize unfAt (tx (rdD d hrd).1) 0 = U at *
  generalize (tx (rdD d hrd).1) = T at *
  generalize (rdD d hrd).2 = er at *
  obtain ⟨b, to, ue⟩ := U
  simp only at *
  go_enter Tryz.func51, Tryz.ntmps51
  go_wp2_with fail
  generalize w.alloc (.cells #[.int .i64 0, .int .i64 0] 98) = W0 at *
  refine RD.out.mono ?_
  rintro q1 w1 ⟨rfl, k1⟩
  have K1 := hid (K0.out.trans k1)
  have R1 := hid (R0.out.keep k1 (fun h => h))
  clear RD K0 R0 k1
  by_cases h4 : er = 4
  · subst h4
    obtain rfl : R = ⟨0, -1, 0⟩ := HR.out
    clear HR UF HSX
    have d0 := R1.out.cellAt (o := 0) rfl
    have d1 := R1.out.cellAt (o := 1) rfl
    have f0 : w1.frozen? ⟨w.heap.size, 0, none⟩ = false := R1.out.frozen
    have f1 : w1.frozen? ⟨w.heap.size, 1, none⟩ = false := R1.out.frozen
    have FB := hid (two R1.out (.int .i64 0) (.int .i64 (-1)))
    have FK := hid (K1.out.then FB.out.2 (fun j hj e => by omega))
    go_wp2
    exact bodyPost_ret (ret_ctw (p := 2) (u := 3) rfl _ _ w.heap.size #[.int .i64 0, .int .i64 (-1)] (.int .i64 0) rfl rfl (run_loadVar_row _ _ _ _ _ _ _ FB.out.1 Tryz.underlying98 rfl (by kernel_rfl))) rfl ⟨rfl, FK.out⟩

  · have n4 : (er == 4) = false := beq_eq_false_iff_ne.2 h4
    by_cases h0 : er = 0
    · subst h0
      have HR2 : Hid (R = if ue = 0 ∧ to = (T.size : Int) then rhB b else ⟨0, 0, 31⟩) := HR.out
      clear HR h4
      go_wp2_with fail
      refine (UF.out _).mono ?_
      rintro q2 w2 ⟨rfl, b2⟩
      have K2 := hid (K1.out.trans (b2.keep _))
      have R2 := hid (R1.out.keep (b2.keep (fun _ => False)) (fun h => h))
      clear UF K1 R1 b2
      by_cases hu : ue = 0
      · subst hu
        by_cases ht : to = (T.size : Int)
        · subst ht
          have HR3 : Hid (R = rhB b) := HR2.out.trans (if_pos ⟨rfl, rfl⟩)
          clear HR2
          have hsm : b.size ≤ maxLen := by unfold maxLen; have := HSX.out; omega
          have NW := hid (new_reader b w2)
          have HLO : Hid (w.heap.size < w2.heap.size) := R2.out.lt
          have RI : Hid (∀ (m a e : Int) (g : Nat) (W : World), RdAt W g b a e → m ≤ 9223372036854775807 → Calls Tryz.prog 100 #[.pointer (some ⟨g, 0, none⟩), .int .i64 m] W fun r w' => r = .returned (.int .i64 (dcN b m a e).n) ∧ RdAt w' g b (dcN b m a e).a (dcN b m a e).e ∧ Only g W w') := fun m a e g W h hm => rd_int _ b a e m W h hsm hm (nS_int b a e m hm)
          have RE : Hid (∀ a e g W, RdAt W g b a e → Calls Tryz.prog 101 #[.pointer (some ⟨g, 0, none⟩)] W fun r w' => r = .returned (.int .i64 (endE b a e)) ∧ RdAt w' g b a (endE b a e) ∧ Only g W w') := fun a e g W h => rd_end _ b a e W h
          have Q1 := hid (fun W h => RI.out 1099511627776 0 0 w2.heap.size W h (by omega))
          have Q2 := hid (fun W h => RI.out 7 (dcN b 1099511627776 0 0).a (dcN b 1099511627776 0 0).e w2.heap.size W h (by omega))
          have Q3 := hid (RE.out (dcN b 7 (dcN b 1099511627776 0 0).a (dcN b 1099511627776 0 0).e).a (dcN b 7 (dcN b 1099511627776 0 0).a (dcN b 1099511627776 0 0).e).e w2.heap.size)
          have HN7 := hid (dcN_le b 7 (dcN b 1099511627776 0 0).a (dcN b 1099511627776 0 0).e (by omega))
          unfold rhB at HR3
          clear RI RE hsm HSX
          generalize dcN b 7 (dcN b 1099511627776 0 0).a (dcN b 1099511627776 0 0).e = D2 at *
          generalize dcN b 1099511627776 0 0 = D1 at *
          obtain ⟨a1, e1, n1⟩ := D1
          obtain ⟨a2, e2, n2⟩ := D2
          simp only at *
          generalize endE b a2 e2 = en at *
          go_wp2_with fail
          refine NW.out.mono ?_
          rintro q3 w3 ⟨rfl, h3, b3⟩
          have S3 : Hid (RhS w w2.heap.size b 0 0 w3) := ⟨h3, R2.out.keep (b3.keep (fun _ => False)) (fun h => h), K2.out.trans (b3.keep _), HLO.out⟩
          clear NW h3 b3 K2 R2
          go_wp2_with fail
          refine (Q1.out _ S3.out.rd).mono ?_
          rintro q4 w4 ⟨rfl, h4, o4⟩
          have S4 := hid (S3.out.read h4 o4)
          clear Q1 S3 h4 o4
          go_wp2_with fail
          refine (Q2.out _ S4.out.rd).mono ?_
          rintro q5 w5 ⟨rfl, h5, o5⟩
          have S5 := hid (S4.out.read h5 o5)
          clear Q2 S4 h5 o5
          have hn7 : (n2 : Int) ≤ 7 := HN7.out
          have hz1 : (n2 : Int) + -1 = (n2 : Int) - 1 := rfl
          go_wp2_with fail
          have S6 := hid (S5.out.al (.cells #[.int .i64 (n1 : Int), .int .i64 ((n2 : Int) - 1)] 98))
          have B6 := hid (srow w5 [.int .i64 (n1 : Int), .int .i64 ((n2 : Int) - 1)] 98)
          have HL5 : Hid (w.heap.size < w5.heap.size ∧ w2.heap.size < w5.heap.size) := ⟨S5.out.rs.lt, rd_lt S5.out.rd⟩
          clear S5
          generalize w5.alloc (.cells #[.int .i64 (n1 : Int), .int .i64 ((n2 : Int) - 1)] 98) = V at *
          refine (Q3.out _ S6.out.rd).mono ?_
          rintro q6 w6 ⟨rfl, h6, o6⟩
          have S7 := hid (S6.out.read h6 o6)
          have B7 := hid (B6.out.keep o6.keep (by have := HL5.out.2; omega))
          clear Q3 S6 B6 h6 o6
          by_cases hen : en = 0
          · subst hen
            obtain rfl : R = ⟨n1, (n2 : Int) - 1, 0⟩ := HR3.out.trans (if_pos rfl)
            have c0 := B7.out.cellAt (o := 0) rfl
            have c1 := B7.out.cellAt (o := 1) rfl
            have HNE : w5.heap.size ≠ w.heap.size := by have := HL5.out.1; omega
            clear HR3 B7 HN7 hn7 hz1
            have d0 := S7.out.rs.cellAt (o := 0) rfl
            have d1 := S7.out.rs.cellAt (o := 1) rfl
            have f0 : w6.frozen? ⟨w.heap.size, 0, none⟩ = false := S7.out.rs.frozen
            have f1 : w6.frozen? ⟨w.heap.size, 1, none⟩ = false := S7.out.rs.frozen
            have FB := hid (two S7.out.rs (.int .i64 (n1 : Int)) (.int .i64 ((n2 : Int) - 1)))
            have FK := hid (S7.out.kp.then FB.out.2 (fun j hj e => by omega))
            go_wp2
            exact bodyPost_ret (ret_ctw (p := 2) (u := 3) rfl _ _ w.heap.size #[.int .i64 (n1 : Int), .int .i64 ((n2 : Int) - 1)] (.int .i64 0) rfl rfl (run_loadVar_row _ _ _ _ _ _ _ FB.out.1 Tryz.underlying98 rfl (by kernel_rfl))) rfl ⟨rfl, FK.out⟩

          · have hne : (en != 0) = true := by simp [hen]
            obtain rfl : R = ⟨0, 0, 31⟩ := HR3.out.trans (if_neg hen)
            clear HR3 B7 hen HN7 hn7 hz1
            have d0 := S7.out.rs.cellAt (o := 0) rfl
            have d1 := S7.out.rs.cellAt (o := 1) rfl
            have f0 : w6.frozen? ⟨w.heap.size, 0, none⟩ = false := S7.out.rs.frozen
            have f1 : w6.frozen? ⟨w.heap.size, 1, none⟩ = false := S7.out.rs.frozen
            have FB := hid (two S7.out.rs (.int .i64 0) (.int .i64 0))
            have FK := hid (S7.out.kp.then FB.out.2 (fun j hj e => by omega))
            go_wp2
            exact bodyPost_ret (ret_ctw (p := 2) (u := 3) rfl _ _ w.heap.size #[.int .i64 0, .int .i64 0] (.int .i64 31) rfl rfl (run_loadVar_row _ _ _ _ _ _ _ FB.out.1 Tryz.underlying98 rfl (by kernel_rfl))) rfl ⟨rfl, FK.out⟩

        · have hne : (to != (T.size : Int)) = true := by simp [ht]
          obtain rfl : R = ⟨0, 0, 31⟩ := HR2.out.trans (if_neg (fun h => ht h.2))
          clear HR2 HSX ht
          have d0 := R2.out.cellAt (o := 0) rfl
          have d1 := R2.out.cellAt (o := 1) rfl
          have f0 : w2.frozen? ⟨w.heap.size, 0, none⟩ = false := R2.out.frozen
          have f1 : w2.frozen? ⟨w.heap.size, 1, none⟩ = false := R2.out.frozen
          have FB := hid (two R2.out (.int .i64 0) (.int .i64 0))
          have FK := hid (K2.out.then FB.out.2 (fun j hj e => by omega))
          go_wp2
          exact bodyPost_ret (ret_ctw (p := 2) (u := 3) rfl _ _ w.heap.size #[.int .i64 0, .int .i64 0] (.int .i64 31) rfl rfl (run_loadVar_row _ _ _ _ _ _ _ FB.out.1 Tryz.underlying98 rfl (by kernel_rfl))) rfl ⟨rfl, FK.out⟩

      · have hne : ((ue : Int) != 0) = true := by simp [hu]
        obtain rfl : R = ⟨0, 0, 31⟩ := HR2.out.trans (if_neg (fun h => hu h.1))
        clear HR2 HSX hu
        have d0 := R2.out.cellAt (o := 0) rfl
        have d1 := R2.out.cellAt (o := 1) rfl
        have f0 : w2.frozen? ⟨w.heap.size, 0, none⟩ = false := R2.out.frozen
        have f1 : w2.frozen? ⟨w.heap.size, 1, none⟩ = false := R2.out.frozen
        have FB := hid (two R2.out (.int .i64 0) (.int .i64 0))
        have FK := hid (K2.out.then FB.out.2 (fun j hj e => by omega))
        go_wp2
        exact bodyPost_ret (ret_ctw (p := 2) (u := 3) rfl _ _ w.heap.size #[.int .i64 0, .int .i64 0] (.int .i64 31) rfl rfl (run_loadVar_row _ _ _ _ _ _ _ FB.out.1 Tryz.underlying98 rfl (by kernel_rfl))) rfl ⟨rfl, FK.out⟩

    · obtain rfl : R = ⟨0, 0, er⟩ := (HR.out.trans (if_neg h4)).trans (if_neg h0)
      have n0 : (er != 0) = true := by simp [h0]
      clear HR UF HSX h4 h0
      have d0 := R1.out.cellAt (o := 0) rfl
      have d1 := R1.out.cellAt (o := 1) rfl
      have f0 : w1.frozen? ⟨w.heap.size, 0, none⟩ = false := R1.out.frozen
      have f1 : w1.frozen? ⟨w.heap.size, 1, none⟩ = false := R1.out.frozen
      have FB := hid (two R1.out (.int .i64 0) (.int .i64 0))
      have FK := hid (K1.out.then FB.out.2 (fun j hj e => by omega))
      go_wp2
      exact bodyPost_ret (ret_ctw (p := 2) (u := 3) rfl _ _ w.heap.size #[.int .i64 0, .int .i64 0] (.int .i64 er) rfl rfl (run_loadVar_row _ _ _ _ _ _ _ FB.out.1 Tryz.underlying98 rfl (by kernel_rfl))) rfl ⟨rfl, FK.out⟩

end Go.Proofs.YtefbioainibmaaaGreatDoor
namespace Go.Proofs.YtefbioainibmaaaGreatDoor
open Go.RowKit Go.Maps
set_option linter.unusedVariables false
set_option linter.unusedSimpArgs false

theorem elIn : ElT 89 3 1 8 := ⟨Tryz.underlying89, ⟨.int .i64 0, by kernel_rfl, rfl⟩, by decide⟩
theorem ret_ct3 {fn : Func} {p u t : Tmp} {ty : TypeId} (h : fn.results = #[.cell p ty, .tmp u, .tmp t]) (tmps : Array Value) (w : World) (g : Nat) (cs : Array Value) (x y : Value)
    (hp : tmps.getD p undef = .pointer (some ⟨g, 0, none⟩)) (hx : tmps.getD u undef = x) (hy : tmps.getD t undef = y) (hg : (loadVar ty ⟨g, 0, none⟩).run Tryz.prog w = .ok (.agg cs) w) :
    (results fn tmps).run Tryz.prog w = .ok (.tuple #[.agg cs, x, y]) w := by
  simp only [results, h]
  simp [Sem.run_bind, Result.andThen]
  simp at hp hx hy
  simp [hp, hx, hy, asAddr, hg, Result.andThen]
theorem unf_sz (s : ByteArray) (a : Int) (hs : s.size ≤ 1152921504606846976) : (unfAt s a).x.size ≤ s.size := by
  rcases unf_parts s a hs with ⟨e, _, _, _, hu⟩ | ⟨b, n, _, _, _, _, ⟨_, hu⟩ | ⟨_, _, hu⟩ | ⟨_, _, u, v, _, _, _, _, ⟨_, hu⟩ | ⟨_, hu⟩⟩⟩ <;> rw [hu]
  · exact Nat.zero_le _
  · exact Nat.zero_le _
  · exact Nat.zero_le _
  · exact Nat.zero_le _
  · rw [ByteArray.size_extract]; omega
/-- entries and places; the error -/
structure RsE where
  es : List En
  ps : List Int
  e : Int
/-- at most so many entries more, behind those that were read -/
def rsL (s : ByteArray) : Nat → List En → List Int → RsE
  | 0, es, ps => if (unfAt s (ps.getLastD 0)).e = 0 then ⟨[], [], 31⟩ else ⟨es, ps, 0⟩
  | k + 1, es, ps => if (unfAt s (ps.getLastD 0)).e = 0 then
      if (reR (unfAt s (ps.getLastD 0)).x).e = 0 then rsL s k (es ++ [⟨(reR (unfAt s (ps.getLastD 0)).x).tm, (reR (unfAt s (ps.getLastD 0)).x).kd, (reR (unfAt s (ps.getLastD 0)).x).da⟩]) (ps ++ [(unfAt s (ps.getLastD 0)).to]) else ⟨[], [], 31⟩
    else ⟨es, ps, 0⟩
/-- a segment that is read -/
structure RsG where
  is : Bool
  e : Int
  ix : Nat
  tm : Nat
  es : List En
  ps : List Int
def rsG (s : ByteArray) : RsG :=
  if (unfAt s 0).e = 0 then
    if (rbR (unfAt s 0).x).e = 0 then
      if (rsL s 8 [] [((bsB (rbR (unfAt s 0).x).ix (rbR (unfAt s 0).x).tm).length : Int)]).e = 0 then
        ⟨true, 0, (rbR (unfAt s 0).x).ix, (rbR (unfAt s 0).x).tm, (rsL s 8 [] [((bsB (rbR (unfAt s 0).x).ix (rbR (unfAt s 0).x).tm).length : Int)]).es, (rsL s 8 [] [((bsB (rbR (unfAt s 0).x).ix (rbR (unfAt s 0).x).tm).length : Int)]).ps⟩
      else ⟨false, 31, 0, 0, [], []⟩
    else ⟨false, 31, 0, 0, [], []⟩
  else ⟨false, 0, 0, 0, [], []⟩
/-- the memory of the reading: the result's row, the segment's box, its rows -/
structure RgS (w : World) (b : Nat) (n ix tm : Int) (ve vp : Value) (es : List En) (ps : List Int) (W : World) : Prop where
  rs : RowIs W w.heap.size [.int .i64 0, .int .i64 0, .int .i64 0, .slice none 0 0, .slice none 0 0] 126
  bx : RowIs W b (sgC n ix tm ve vp) 126
  oe : OwnE W w.heap.size ve es
  oi : OwnI W w.heap.size vp ps
  bl : Below w.heap.size w W
  lo : w.heap.size < b
theorem RgS.next {w W W' : World} {b : Nat} {n ix tm : Int} {ve vp : Value} {es : List En} {ps : List Int} (h : RgS w b n ix tm ve vp es ps W) (k : Below W.heap.size W W') : RgS w b n ix tm ve vp es ps W' :=
  ⟨h.rs.keep (k.keep (fun _ => False)) (fun h => h), h.bx.keep (k.keep (fun _ => False)) (fun h => h), h.oe.keep (k.keep (fun _ => False)) (fun _ _ h => h), h.oi.next k, below_on h.bl k, h.lo⟩
theorem RgS.appE {w W W2 : World} {b : Nat} {n ix tm : Int} {ve vp ve' : Value} {es : List En} {ps : List Int} (h : RgS w b n ix tm ve vp es ps W) (x : En) (hk : Keep (fun k => ve.ownBlock = some k) W W2) (ho : W2.ownsRow w.heap.size 68 3 ve' (es.length + 1) (ensC es ++ enC x)) : RgS w b n ix tm ve' vp (es ++ [x]) ps (W2.setCell ⟨b, 3, none⟩ ve') := by
  have hl := h.lo
  have n1 := own_ne_row h.oe h.bx (by decide)
  have n2 := own_ne_row h.oe h.rs (by decide)
  have r2 := h.rs.keep hk n2
  have b2 := h.bx.keep hk n1
  have i2 : OwnI W2 w.heap.size vp ps := hk.ownsRow h.oi (fun g hg e => rows_apart2 h.oi h.oe (by decide) hg e)
  have kS := keep_setCell W2 b 3 ve'
  have n3 := own_ne_row ho b2 (by decide)
  have n4 := own_ne_row i2 b2 (by decide)
  refine ⟨r2.keep kS (by omega), b2.set 3 ve', ?_, kS.ownsRow i2 (fun g hg e => n4 (by rw [hg, e])), ?_, h.lo⟩
  · have h5 : W2.ownsRow w.heap.size 68 3 ve' (es ++ [x]).length (ensC (es ++ [x])) := by rw [ensC_snoc, List.length_append]; exact ho
    exact kS.ownsRow h5 (fun g hg e => n3 (by rw [hg, e]))
  · have b1 := keep_below hk (fun k hk' e => by have := ownsRow_ge h.oe e; omega) h.bl.size (B := w.heap.size)
    exact (h.bl.trans b1).trans (keep_below kS (fun k hk' e => by omega) (Nat.le_trans h.bl.size hk.size))
theorem RgS.appI {w W W2 : World} {b : Nat} {n ix tm : Int} {ve vp vp' : Value} {es : List En} {ps : List Int} (h : RgS w b n ix tm ve vp es ps W) (x : Int) (hk : Keep (fun k => vp.ownBlock = some k) W W2) (ho : W2.ownsRow w.heap.size 3 1 vp' (ps.length + 1) (isC ps ++ [.int .i64 x])) : RgS w b n ix tm ve vp' es (ps ++ [x]) (W2.setCell ⟨b, 4, none⟩ vp') := by
  have hl := h.lo
  have n1 := own_ne_row h.oi h.bx (by decide)
  have n2 := own_ne_row h.oi h.rs (by decide)
  have r2 := h.rs.keep hk n2
  have b2 := h.bx.keep hk n1
  have e2 : OwnE W2 w.heap.size ve es := hk.ownsRow h.oe (fun g hg e => rows_apart2 h.oe h.oi (by decide) hg e)
  have kS := keep_setCell W2 b 4 vp'
  have n3 := own_ne_row ho b2 (by decide)
  have n4 := own_ne_row e2 b2 (by decide)
  refine ⟨r2.keep kS (by omega), b2.set 4 vp', kS.ownsRow e2 (fun g hg e => n4 (by rw [hg, e])), ?_, ?_, h.lo⟩
  · have h5 : W2.ownsRow w.heap.size 3 1 vp' (ps ++ [x]).length (isC (ps ++ [x])) := by rw [show isC (ps ++ [x]) = isC ps ++ [.int .i64 x] by simp [isC], List.length_append]; exact ho
    exact kS.ownsRow h5 (fun g hg e => n3 (by rw [hg, e]))
  · have b1 := keep_below hk (fun k hk' e => by have := ownsRow_ge h.oi e; omega) h.bl.size (B := w.heap.size)
    exact (h.bl.trans b1).trans (keep_below kS (fun k hk' e => by omega) (Nat.le_trans h.bl.size hk.size))
end Go.Proofs.YtefbioainibmaaaGreatDoor
namespace Go.Proofs.YtefbioainibmaaaGreatDoor
open Go.RowKit Go.Maps
set_option linter.unusedVariables false
set_option linter.unusedSimpArgs false

def RsPost (n : Int) (R : RsG) (w : World) (q : Ending) (w' : World) : Prop :=
  ∃ ve vp, q = .returned (.tuple #[sgV (if R.is = true then n else 0) R.ix R.tm ve vp, .bool R.is, .int .i64 R.e]) ∧ OwnE w' w.heap.size ve R.es ∧ OwnI w' w.heap.size vp R.ps ∧ Below w.heap.size w w'
theorem ownE_zero (W : World) (B : Nat) : OwnE W B (.slice none 0 0) [] := ⟨rfl, .inl ⟨rfl, rfl⟩⟩
set_option maxRecDepth 100000 in
set_option maxHeartbeats 4000000 in
theorem readSegment_any (n : Int) (s : ByteArray) (w : World) (hs : s.size ≤ 1000000000) : Calls Tryz.prog 104 #[.int .i64 n, .string s] w fun q w' => RsPost n (rsG s) w q w' := by
  have R0 := hid (srow w [.int .i64 0, .int .i64 0, .int .i64 0, .slice none 0 0, .slice none 0 0] 126)
  have B0 : Hid (Below w.heap.size w (w.alloc (.cells #[.int .i64 0, .int .i64 0, .int .i64 0, .slice none 0 0, .slice none 0 0] 126))) := below_al (Below.refl _ _) _
  have UN : Hid (∀ (a : Int) (W : World), Calls Tryz.prog 98 #[.string s, .int .i64 a] W fun e w' => e = .returned (.tuple #[.string (unfAt s a).x, .int .i64 (unfAt s a).to, .int .i64 (unfAt s a).e]) ∧ Below W.heap.size W w') := fun a W => unframe_any s a W (by omega)
  have SZ : Hid (∀ a, (unfAt s a).x.size ≤ 1000000000) := fun a => Nat.le_trans (unf_sz s a (by omega)) hs
  have HG : Hid (rsG s = if (unfAt s 0).e = 0 then
    if (rbR (unfAt s 0).x).e = 0 then
      if (rsL s 8 [] [((bsB (rbR (unfAt s 0).x).ix (rbR (unfAt s 0).x).tm).length : Int)]).e = 0 then
        ⟨true, 0, (rbR (unfAt s 0).x).ix, (rbR (unfAt s 0).x).tm, (rsL s 8 [] [((bsB (rbR (unfAt s 0).x).ix (rbR (unfAt s 0).x).tm).length : Int)]).es, (rsL s 8 [] [((bsB (rbR (unfAt s 0).x).ix (rbR (unfAt s 0).x).tm).length : Int)]).ps⟩
      else ⟨false, 31, 0, 0, [], []⟩
    else ⟨false, 31, 0, 0, [], []⟩
  else ⟨false, 0, 0, 0, [], []⟩) := rfl
  have LE : Hid (∀ k es ps, rsL s (k + 1) es ps = if (unfAt s (ps.getLastD 0)).e = 0 then
      if (reR (unfAt s (ps.getLastD 0)).x).e = 0 then rsL s k (es ++ [⟨(reR (unfAt s (ps.getLastD 0)).x).tm, (reR (unfAt s (ps.getLastD 0)).x).kd, (reR (unfAt s (ps.getLastD 0)).x).da⟩]) (ps ++ [(unfAt s (ps.getLastD 0)).to]) else ⟨[], [], 31⟩
    else ⟨es, ps, 0⟩) := fun _ _ _ => rfl
  have LZ : Hid (∀ es ps, rsL s 0 es ps = if (unfAt s (ps.getLastD 0)).e = 0 then ⟨[], [], 31⟩ else ⟨es, ps, 0⟩) := fun _ _ => rfl
  have RB : Hid (∀ (b : ByteArray) (W : World), b.size ≤ 1000000000 → Calls Tryz.prog 143 #[.string b] W fun q w' => q = .returned (.tuple #[.int .i64 ((rbR b).ix : Int), .int .i64 ((rbR b).tm : Int), .int .i64 (rbR b).e]) ∧ Below W.heap.size W w') := fun b W h => readBase_any b W (by omega)
  have RBL : Hid (∀ b, (rbR b).ix ≤ 1099511627776 ∧ (rbR b).tm ≤ 1099511627776) := fun b => by
    have h1 := dcN_le b 1099511627776 0 0 (by omega)
    have h2 := dcN_le b 1099511627776 (dcN b 1099511627776 0 0).a (dcN b 1099511627776 0 0).e (by omega)
    unfold rbR
    exact ⟨by simp only; omega, by simp only; omega⟩
  have RE : Hid (∀ (b : ByteArray) (W : World), b.size ≤ 1000000000 → Calls Tryz.prog 145 #[.string b] W fun q w' => q = .returned (.tuple #[.agg #[.int .i64 ((reR b).tm : Int), .int .i64 ((reR b).kd : Int), .string (reR b).da], .int .i64 (reR b).e]) ∧ Below W.heap.size W w') := fun b W h => readEntry_any b W (by omega)
  clear hs
  generalize rsG s = R at *
  have U0 := hid (UN.out 0)
  have Z0 := hid (SZ.out 0)
  generalize unfAt s 0 = U at *
  obtain ⟨body, to0, e0⟩ := U
  simp only at *
  go_enter Tryz.func104, Tryz.ntmps104
  go_wp2_with fail
  generalize w.alloc (.cells #[.int .i64 0, .int .i64 0, .int .i64 0, .slice none 0 0, .slice none 0 0] 126) = W0 at *
  refine (U0.out _).mono ?_
  rintro q1 w1 ⟨rfl, b1⟩
  have R1 := hid (R0.out.keep (b1.keep (fun _ => False)) (fun h => h))
  have B1 := hid (below_on B0.out b1)
  clear U0 R0 B0 b1
  by_cases he0 : e0 = 0
  · subst he0
    have HG2 := hid (HG.out.trans (if_pos rfl))
    have RBx := hid (fun W => RB.out body W Z0.out)
    have RBLx := hid (RBL.out body)
    clear HG RB RBL Z0
    generalize rbR body = D at *
    obtain ⟨ix, tm, e1⟩ := D
    simp only at *
    go_wp2_with fail
    refine (RBx.out _).mono ?_
    rintro q2 w2 ⟨rfl, b2⟩
    have R2 := hid (R1.out.keep (b2.keep (fun _ => False)) (fun h => h))
    have B2 := hid (below_on B1.out b2)
    clear RBx R1 B1 b2
    by_cases he1 : e1 = 0
    · subst he1
      have HG3 := hid (HG2.out.trans (if_pos rfl))
      clear HG2
      have BG := hid (fun W => begun_any n ix tm W (by have := RBLx.out.1; omega) (by have := RBLx.out.2; omega))
      go_wp2_with fail
      refine (BG.out _).mono ?_
      rintro q3 w3 ⟨bp, rfl, oi, b3⟩
      have S0 : Hid (RgS w w3.heap.size n ix tm (.slice none 0 0) (.slice (some ⟨bp, 0, none⟩) 1 1) [] [((bsB ix tm).length : Int)] (w3.alloc (.cells #[.int .i64 n, .int .i64 (ix : Int), .int .i64 (tm : Int), .slice none 0 0, .slice (some ⟨bp, 0, none⟩) 1 1] 126))) := by
        have r3 := R2.out.keep (b3.keep (fun _ => False)) (fun h => h)
        have o3 : OwnI w3 w.heap.size (.slice (some ⟨bp, 0, none⟩) 1 1) [((bsB ix tm).length : Int)] := ownsRow_base oi B2.out.size
        exact ⟨row_old r3 _, srow w3 (sgC n ix tm (.slice none 0 0) (.slice (some ⟨bp, 0, none⟩) 1 1)) 126, ownE_zero _ _, (keep_alloc (fun _ => False) w3 _).ownsRow o3 (fun _ _ h => h), below_al (below_on B2.out b3) _, r3.lt⟩
      clear BG oi b3 R2 B2
      generalize ((bsB ix tm).length : Int) = L0 at *
      unfold sgV
      go_wp2
      generalize w3.alloc (.cells #[.int .i64 n, .int .i64 (ix : Int), .int .i64 (tm : Int), .slice none 0 0, .slice (some ⟨bp, 0, none⟩) 1 1] 126) = V0 at *
      generalize w3.heap.size = b at *
      go_loopw [46] (fun i wr => ∃ (k : Nat) (ve vp : Value) (es : List En) (ps : List Int), i = .int .i64 (k : Int) ∧ Hid (k ≤ 8) ∧ Hid (es.length = k ∧ ps.length = k + 1) ∧ Hid (rsL s 8 [] [L0] = rsL s (8 - k) es ps) ∧ Hid (RgS w b n ix tm ve vp es ps wr)) (fun i _ => 8 - (intOf i).toNat)
      case atStart => exact ⟨0, _, _, [], [L0], rfl, Nat.zero_le _, ⟨rfl, rfl⟩, rfl, S0⟩
      case round =>
        clear S0
        obtain ⟨k, ve, vp, es, ps, rfl, HK, HLN, HRS, HS⟩ := hrel
        have SZC := hid (fun W (h : RgS w b n ix tm ve vp es ps W) => sgsize_any n ix tm ve vp ps W h.oi.ints (by have := HLN.out.2; omega) (by have := HLN.out.2; have := HK.out; omega))
        unfold sgV at SZC
        have UNk := hid (UN.out (ps.getLastD 0))
        have SZk := hid (SZ.out (ps.getLastD 0))
        have HLO : Hid (w.heap.size < b ∧ b < wr.heap.size) := ⟨HS.out.lo, HS.out.bx.lt⟩
        have y0 := HS.out.bx.cellAt (o := 0) rfl
        have y1 := HS.out.bx.cellAt (o := 1) rfl
        have y2 := HS.out.bx.cellAt (o := 2) rfl
        have y3 := HS.out.bx.cellAt (o := 3) rfl
        have y4 := HS.out.bx.cellAt (o := 4) rfl
        by_cases hlt : k < 8
        · have d1 : decide ((k : Int) < 8) = true := decide_eq_true (by omega)
          obtain ⟨j, hj⟩ : ∃ j, 8 - k = j + 1 := ⟨8 - k - 1, by omega⟩
          have HR2 : Hid (rsL s 8 [] [L0] = if (unfAt s (ps.getLastD 0)).e = 0 then
      if (reR (unfAt s (ps.getLastD 0)).x).e = 0 then rsL s j (es ++ [⟨(reR (unfAt s (ps.getLastD 0)).x).tm, (reR (unfAt s (ps.getLastD 0)).x).kd, (reR (unfAt s (ps.getLastD 0)).x).da⟩]) (ps ++ [(unfAt s (ps.getLastD 0)).to]) else ⟨[], [], 31⟩
    else ⟨es, ps, 0⟩) := by show _ = _; rw [HRS.out, hj]; exact LE.out j es ps
          have HJ : Hid (8 - (k + 1) = j) := by show _ = _; omega
          clear HRS LE LZ hj UN SZ
          generalize ps.getLastD 0 = a at *
          generalize unfAt s a = U at *
          obtain ⟨bd, to, ue⟩ := U
          simp only at *
          go_wp2_with fail
          refine (SZC.out _ HS.out).mono ?_
          rintro e w4 ⟨rfl, b4⟩
          have S4 := hid (HS.out.next b4)
          clear SZC HS b4 y0 y1 y2 y3 y4
          go_wp2_with fail
          refine (UNk.out _).mono ?_
          rintro e w5 ⟨rfl, b5⟩
          have S5 := hid (S4.out.next b5)
          clear UNk S4 b5
          by_cases hu : ue = 0
          · subst hu
            have HR3 := hid (HR2.out.trans (if_pos rfl))
            have REk := hid (fun W => RE.out bd W SZk.out)
            clear HR2 RE SZk
            generalize reR bd = E at *
            obtain ⟨et, ek, ed, ee⟩ := E
            simp only at *
            go_wp2_with fail
            refine (REk.out _).mono ?_
            rintro e w6 ⟨rfl, b6⟩
            have S6 := hid (S5.out.next b6)
            have S7 := hid (S6.out.next (below_al (Below.refl _ _) (.cells #[.int .i64 (et : Int), .int .i64 (ek : Int), .string ed] 68)))
            have X7 := hid (srow w6 [.int .i64 (et : Int), .int .i64 (ek : Int), .string ed] 68)
            have H67 : Hid (b < w6.heap.size ∧ w.heap.size < w6.heap.size) := ⟨S6.out.bx.lt, Nat.lt_trans S6.out.lo S6.out.bx.lt⟩
            clear REk S5 S6 b6
            by_cases hee : ee = 0
            · subst hee
              have HR4 := hid (HR3.out.trans (if_pos rfl))
              clear HR3
              have S8 : Hid (RgS w b n ix tm ve vp es ps ((w6.alloc (.cells #[.int .i64 (et : Int), .int .i64 (ek : Int), .string ed] 68)).alloc (.cells #[.int .i64 (et : Int), .int .i64 (ek : Int), .string ed] 68))) := S7.out.next (below_al (Below.refl _ _) _)
              have HX8 : Hid (RowC ((w6.alloc (.cells #[.int .i64 (et : Int), .int .i64 (ek : Int), .string ed] 68)).alloc (.cells #[.int .i64 (et : Int), .int .i64 (ek : Int), .string ed] 68)) (.slice (some ⟨w6.heap.size + 1, 0, none⟩) 1 1) 1 (enC ⟨et, ek, ed⟩)) := by
                have := own_made (w6.alloc (.cells #[.int .i64 (et : Int), .int .i64 (ek : Int), .string ed] 68)) (enC ⟨et, ek, ed⟩) 68 3 1 0 (Nat.zero_le _) rfl (by omega)
                rw [show (w6.alloc (.cells #[.int .i64 (et : Int), .int .i64 (ek : Int), .string ed] 68)).heap.size = w6.heap.size + 1 by simp] at this
                exact RowC.own this
              have HSZ8 : Hid (w.heap.size ≤ ((w6.alloc (.cells #[.int .i64 (et : Int), .int .i64 (ek : Int), .string ed] 68)).alloc (.cells #[.int .i64 (et : Int), .int .i64 (ek : Int), .string ed] 68)).heap.size) := S8.out.bl.size
              have y3 := S7.out.bx.cellAt (o := 3) rfl
              have x0 := X7.out.cellAt (o := 0) rfl
              have x1 := X7.out.cellAt (o := 1) rfl
              have x2 := X7.out.cellAt (o := 2) rfl
              have HL1 : Hid (es.length + 1 ≤ 4611686018427387904) := by have := HLN.out.1; have := HK.out; show _ ≤ _; omega
              have HL2 : Hid ((es.length + 1) * 32 ≤ 140737488355328) := by have := HLN.out.1; have := HK.out; show _ ≤ _; omega
              have HL3 : Hid (ps.length + 1 ≤ 4611686018427387904) := by have := HLN.out.2; have := HK.out; show _ ≤ _; omega
              have HL4 : Hid ((ps.length + 1) * 8 ≤ 140737488355328) := by have := HLN.out.2; have := HK.out; show _ ≤ _; omega
              clear S7 X7
              go_wp2_with (first | (at_builtin; refine wpl_gappR rfl _ _ elEn rfl w.heap.size ve (.slice (some ⟨w6.heap.size + 1, 0, none⟩) 1 1) (ensC es) (enC ⟨et, ek, ed⟩) es.length 1 (es.length + 1) rfl rfl rfl S8.out.oe HSZ8.out HX8.out rfl (enC_cell1 _) HL1.out HL2.out ?_; intro ad' cap' w9 ho9 hk9; have S9 := hid (S8.out.appE ⟨et, ek, ed⟩ hk9 ho9); have b9 := S8.out.bx.keep hk9 (own_ne_row S8.out.oe S8.out.bx (by decide)); have c93 := b9.cellAt (o := 3) rfl; have c94 := b9.cellAt (o := 4) rfl; have f93 : w9.frozen? ⟨b, 3, none⟩ = false := b9.frozen; have f94 : w9.frozen? ⟨b, 4, none⟩ = false := b9.frozen; have S11 : Hid (RgS w b n ix tm (.slice ad' (es.length + 1) cap') vp (es ++ [⟨et, ek, ed⟩]) ps ((w9.setCell ⟨b, 3, none⟩ (.slice ad' (es.length + 1) cap')).alloc (.cells #[.int .i64 to] 3))) := S9.out.next (below_al (Below.refl _ _) _); have HX11 : Hid (RowC ((w9.setCell ⟨b, 3, none⟩ (.slice ad' (es.length + 1) cap')).alloc (.cells #[.int .i64 to] 3)) (.slice (some ⟨w9.heap.size, 0, none⟩) 1 1) 1 [.int .i64 to]) := (by have := own_made (w9.setCell ⟨b, 3, none⟩ (.slice ad' (es.length + 1) cap')) [.int .i64 to] 3 1 1 0 (Nat.zero_le _) rfl (by omega); rw [show (w9.setCell ⟨b, 3, none⟩ (.slice ad' (es.length + 1) cap')).heap.size = w9.heap.size by simp] at this; exact RowC.own this); have HSZ11 : Hid (w.heap.size ≤ ((w9.setCell ⟨b, 3, none⟩ (.slice ad' (es.length + 1) cap')).alloc (.cells #[.int .i64 to] 3)).heap.size) := S11.out.bl.size; clear b9 ho9 hk9) | (at_builtin; refine wpl_gappR rfl _ _ elIn rfl w.heap.size vp (.slice (some ⟨w9.heap.size, 0, none⟩) 1 1) (isC ps) [.int .i64 to] ps.length 1 (ps.length + 1) rfl rfl rfl S11.out.oi HSZ11.out HX11.out rfl (fun u hu => by simp at hu; subst hu; rfl) HL3.out HL4.out ?_; intro ad2 cap2 w12 ho12 hk12; have S12 := hid (S11.out.appI to hk12 ho12); have b12 := S11.out.bx.keep hk12 (own_ne_row S11.out.oi S11.out.bx (by decide)); have c124 := b12.cellAt (o := 4) rfl; have f124 : w12.frozen? ⟨b, 4, none⟩ = false := b12.frozen; clear b12 ho12 hk12))
              exact ⟨⟨k + 1, _, _, _, _, by go_num, (by have := HK.out; show _ ≤ _; omega), ⟨(by rw [List.length_append, HLN.out.1]; rfl), (by rw [List.length_append, HLN.out.2]; rfl)⟩, (by rw [HJ.out]; exact HR4.out), S12⟩, by simp [intOf]; omega⟩
            · have hne : (ee != 0) = true := by simp [hee]
              have HR4 := hid (HR3.out.trans (if_neg hee))
              obtain rfl : R = ⟨false, 31, 0, 0, [], []⟩ := by rw [HG3.out, HR4.out]; exact if_neg (by decide)
              clear HR3 HR4 HG3 hee X7
              have d0 := S7.out.rs.cellAt (o := 0) rfl
              have d1 := S7.out.rs.cellAt (o := 1) rfl
              have d2 := S7.out.rs.cellAt (o := 2) rfl
              have d3 := S7.out.rs.cellAt (o := 3) rfl
              have d4 := S7.out.rs.cellAt (o := 4) rfl
              have f0 : (w6.alloc (.cells #[.int .i64 (et : Int), .int .i64 (ek : Int), .string ed] 68)).frozen? ⟨w.heap.size, 0, none⟩ = false := S7.out.rs.frozen
              have f1 : (w6.alloc (.cells #[.int .i64 (et : Int), .int .i64 (ek : Int), .string ed] 68)).frozen? ⟨w.heap.size, 1, none⟩ = false := S7.out.rs.frozen
              have f2 : (w6.alloc (.cells #[.int .i64 (et : Int), .int .i64 (ek : Int), .string ed] 68)).frozen? ⟨w.heap.size, 2, none⟩ = false := S7.out.rs.frozen
              have f3 : (w6.alloc (.cells #[.int .i64 (et : Int), .int .i64 (ek : Int), .string ed] 68)).frozen? ⟨w.heap.size, 3, none⟩ = false := S7.out.rs.frozen
              have f4 : (w6.alloc (.cells #[.int .i64 (et : Int), .int .i64 (ek : Int), .string ed] 68)).frozen? ⟨w.heap.size, 4, none⟩ = false := S7.out.rs.frozen
              have FV := hid (five S7.out.rs (.int .i64 0) (.int .i64 0) (.int .i64 0) (.slice none 0 0) (.slice none 0 0))
              have BF := hid (S7.out.bl.trans (keep_below FV.out.2 (fun j hj e => by omega) S7.out.bl.size))
              go_wp2
              (try simp only [Exit.inBlock, Exit.then])
              refine bodyPost_ret (ret_ct3 (p := 4) (u := 5) (t := 6) rfl _ _ w.heap.size #[.int .i64 0, .int .i64 0, .int .i64 0, .slice none 0 0, .slice none 0 0] (.bool false) (.int .i64 31) rfl rfl rfl (run_loadVar_row _ _ _ _ _ _ _ FV.out.1 Tryz.underlying126 rfl (by kernel_rfl))) rfl ?_
              exact ⟨.slice none 0 0, .slice none 0 0, rfl, ownE_zero _ _, ownI_nil _ _, BF.out⟩
          · have hne : ((ue : Int) != 0) = true := by simp [hu]
            have HR3 := hid (HR2.out.trans (if_neg hu))
            obtain rfl : R = ⟨true, 0, ix, tm, es, ps⟩ := by rw [HG3.out, HR3.out]; exact if_pos rfl
            clear HR2 HR3 HG3 hu RE SZk
            obtain ⟨ea, ec, rfl⟩ := S5.out.oe.form
            obtain ⟨pa, pc, rfl⟩ := S5.out.oi.form
            have y0 := S5.out.bx.cellAt (o := 0) rfl
            have y1 := S5.out.bx.cellAt (o := 1) rfl
            have y2 := S5.out.bx.cellAt (o := 2) rfl
            have y3 := S5.out.bx.cellAt (o := 3) rfl
            have y4 := S5.out.bx.cellAt (o := 4) rfl
            have d0 := S5.out.rs.cellAt (o := 0) rfl
            have d1 := S5.out.rs.cellAt (o := 1) rfl
            have d2 := S5.out.rs.cellAt (o := 2) rfl
            have d3 := S5.out.rs.cellAt (o := 3) rfl
            have d4 := S5.out.rs.cellAt (o := 4) rfl
            have f0 : w5.frozen? ⟨w.heap.size, 0, none⟩ = false := S5.out.rs.frozen
            have f1 : w5.frozen? ⟨w.heap.size, 1, none⟩ = false := S5.out.rs.frozen
            have f2 : w5.frozen? ⟨w.heap.size, 2, none⟩ = false := S5.out.rs.frozen
            have f3 : w5.frozen? ⟨w.heap.size, 3, none⟩ = false := S5.out.rs.frozen
            have f4 : w5.frozen? ⟨w.heap.size, 4, none⟩ = false := S5.out.rs.frozen
            have FV := hid (five S5.out.rs (.int .i64 n) (.int .i64 (ix : Int)) (.int .i64 (tm : Int)) (.slice ea es.length ec) (.slice pa ps.length pc))
            have BF := hid (S5.out.bl.trans (keep_below FV.out.2 (fun j hj e => by omega) S5.out.bl.size))
            have OE := hid ((FV.out.2).ownsRow S5.out.oe (fun g hg e => own_ne_row S5.out.oe S5.out.rs (by decide) (by rw [hg, e])))
            have OI := hid ((FV.out.2).ownsRow S5.out.oi (fun g hg e => own_ne_row S5.out.oi S5.out.rs (by decide) (by rw [hg, e])))
            go_wp2
            (try simp only [Exit.inBlock, Exit.then])
            refine bodyPost_ret (ret_ct3 (p := 4) (u := 5) (t := 6) rfl _ _ w.heap.size #[.int .i64 n, .int .i64 (ix : Int), .int .i64 (tm : Int), .slice ea es.length ec, .slice pa ps.length pc] (.bool true) (.int .i64 0) rfl rfl rfl (run_loadVar_row _ _ _ _ _ _ _ FV.out.1 Tryz.underlying126 rfl (by kernel_rfl))) rfl ?_
            exact ⟨_, _, rfl, OE.out, OI.out, BF.out⟩
        · have hk8 : k = 8 := by have := HK.out; omega
          subst hk8
          have HR2 : Hid (rsL s 8 [] [L0] = if (unfAt s (ps.getLastD 0)).e = 0 then ⟨[], [], 31⟩ else ⟨es, ps, 0⟩) := HRS.out.trans (LZ.out es ps)
          clear HRS LE LZ UN SZ RE SZk
          generalize ps.getLastD 0 = a at *
          generalize unfAt s a = U at *
          obtain ⟨bd, to, ue⟩ := U
          simp only at *
          go_wp2_with fail
          refine (SZC.out _ HS.out).mono ?_
          rintro e w4 ⟨rfl, b4⟩
          have S4 := hid (HS.out.next b4)
          clear SZC HS b4 y0 y1 y2 y3 y4
          go_wp2_with fail
          refine (UNk.out _).mono ?_
          rintro e w5 ⟨rfl, b5⟩
          have S5 := hid (S4.out.next b5)
          clear UNk S4 b5
          by_cases hu : ue = 0
          · subst hu
            have HR3 := hid (HR2.out.trans (if_pos rfl))
            obtain rfl : R = ⟨false, 31, 0, 0, [], []⟩ := by rw [HG3.out, HR3.out]; exact if_neg (by decide)
            clear HR2 HR3 HG3
            have d0 := S5.out.rs.cellAt (o := 0) rfl
            have d1 := S5.out.rs.cellAt (o := 1) rfl
            have d2 := S5.out.rs.cellAt (o := 2) rfl
            have d3 := S5.out.rs.cellAt (o := 3) rfl
            have d4 := S5.out.rs.cellAt (o := 4) rfl
            have f0 : w5.frozen? ⟨w.heap.size, 0, none⟩ = false := S5.out.rs.frozen
            have f1 : w5.frozen? ⟨w.heap.size, 1, none⟩ = false := S5.out.rs.frozen
            have f2 : w5.frozen? ⟨w.heap.size, 2, none⟩ = false := S5.out.rs.frozen
            have f3 : w5.frozen? ⟨w.heap.size, 3, none⟩ = false := S5.out.rs.frozen
            have f4 : w5.frozen? ⟨w.heap.size, 4, none⟩ = false := S5.out.rs.frozen
            have FV := hid (five S5.out.rs (.int .i64 0) (.int .i64 0) (.int .i64 0) (.slice none 0 0) (.slice none 0 0))
            have BF := hid (S5.out.bl.trans (keep_below FV.out.2 (fun j hj e => by omega) S5.out.bl.size))
            go_wp2
            (try simp only [Exit.inBlock, Exit.then])
            refine bodyPost_ret (ret_ct3 (p := 4) (u := 5) (t := 6) rfl _ _ w.heap.size #[.int .i64 0, .int .i64 0, .int .i64 0, .slice none 0 0, .slice none 0 0] (.bool false) (.int .i64 31) rfl rfl rfl (run_loadVar_row _ _ _ _ _ _ _ FV.out.1 Tryz.underlying126 rfl (by kernel_rfl))) rfl ?_
            exact ⟨.slice none 0 0, .slice none 0 0, rfl, ownE_zero _ _, ownI_nil _ _, BF.out⟩
          · have hne : ((ue : Int) == 0) = false := beq_eq_false_iff_ne.2 (by omega)
            have HR3 := hid (HR2.out.trans (if_neg hu))
            obtain rfl : R = ⟨true, 0, ix, tm, es, ps⟩ := by rw [HG3.out, HR3.out]; exact if_pos rfl
            clear HR2 HR3 HG3 hu
            obtain ⟨ea, ec, rfl⟩ := S5.out.oe.form
            obtain ⟨pa, pc, rfl⟩ := S5.out.oi.form
            have y0 := S5.out.bx.cellAt (o := 0) rfl
            have y1 := S5.out.bx.cellAt (o := 1) rfl
            have y2 := S5.out.bx.cellAt (o := 2) rfl
            have y3 := S5.out.bx.cellAt (o := 3) rfl
            have y4 := S5.out.bx.cellAt (o := 4) rfl
            have d0 := S5.out.rs.cellAt (o := 0) rfl
            have d1 := S5.out.rs.cellAt (o := 1) rfl
            have d2 := S5.out.rs.cellAt (o := 2) rfl
            have d3 := S5.out.rs.cellAt (o := 3) rfl
            have d4 := S5.out.rs.cellAt (o := 4) rfl
            have f0 : w5.frozen? ⟨w.heap.size, 0, none⟩ = false := S5.out.rs.frozen
            have f1 : w5.frozen? ⟨w.heap.size, 1, none⟩ = false := S5.out.rs.frozen
            have f2 : w5.frozen? ⟨w.heap.size, 2, none⟩ = false := S5.out.rs.frozen
            have f3 : w5.frozen? ⟨w.heap.size, 3, none⟩ = false := S5.out.rs.frozen
            have f4 : w5.frozen? ⟨w.heap.size, 4, none⟩ = false := S5.out.rs.frozen
            have FV := hid (five S5.out.rs (.int .i64 n) (.int .i64 (ix : Int)) (.int .i64 (tm : Int)) (.slice ea es.length ec) (.slice pa ps.length pc))
            have BF := hid (S5.out.bl.trans (keep_below FV.out.2 (fun j hj e => by omega) S5.out.bl.size))
            have OE := hid ((FV.out.2).ownsRow S5.out.oe (fun g hg e => own_ne_row S5.out.oe S5.out.rs (by decide) (by rw [hg, e])))
            have OI := hid ((FV.out.2).ownsRow S5.out.oi (fun g hg e => own_ne_row S5.out.oi S5.out.rs (by decide) (by rw [hg, e])))
            go_wp2
            (try simp only [Exit.inBlock, Exit.then])
            refine bodyPost_ret (ret_ct3 (p := 4) (u := 5) (t := 6) rfl _ _ w.heap.size #[.int .i64 n, .int .i64 (ix : Int), .int .i64 (tm : Int), .slice ea es.length ec, .slice pa ps.length pc] (.bool true) (.int .i64 0) rfl rfl rfl (run_loadVar_row _ _ _ _ _ _ _ FV.out.1 Tryz.underlying126 rfl (by kernel_rfl))) rfl ?_
            exact ⟨_, _, rfl, OE.out, OI.out, BF.out⟩
    · have hne : (e1 != 0) = true := by simp [he1]
      obtain rfl : R = ⟨false, 31, 0, 0, [], []⟩ := HG2.out.trans (if_neg he1)
      clear HG2 he1 UN SZ LE LZ RE
      have d0 := R2.out.cellAt (o := 0) rfl
      have d1 := R2.out.cellAt (o := 1) rfl
      have d2 := R2.out.cellAt (o := 2) rfl
      have d3 := R2.out.cellAt (o := 3) rfl
      have d4 := R2.out.cellAt (o := 4) rfl
      have f0 : w2.frozen? ⟨w.heap.size, 0, none⟩ = false := R2.out.frozen
      have f1 : w2.frozen? ⟨w.heap.size, 1, none⟩ = false := R2.out.frozen
      have f2 : w2.frozen? ⟨w.heap.size, 2, none⟩ = false := R2.out.frozen
      have f3 : w2.frozen? ⟨w.heap.size, 3, none⟩ = false := R2.out.frozen
      have f4 : w2.frozen? ⟨w.heap.size, 4, none⟩ = false := R2.out.frozen
      have FV := hid (five R2.out (.int .i64 0) (.int .i64 0) (.int .i64 0) (.slice none 0 0) (.slice none 0 0))
      have BF := hid (B2.out.trans (keep_below FV.out.2 (fun j hj e => by omega) B2.out.size))
      go_wp2
      (try simp only [Exit.inBlock, Exit.then])
      refine bodyPost_ret (ret_ct3 (p := 4) (u := 5) (t := 6) rfl _ _ w.heap.size #[.int .i64 0, .int .i64 0, .int .i64 0, .slice none 0 0, .slice none 0 0] (.bool false) (.int .i64 31) rfl rfl rfl (run_loadVar_row _ _ _ _ _ _ _ FV.out.1 Tryz.underlying126 rfl (by kernel_rfl))) rfl ?_
      exact ⟨.slice none 0 0, .slice none 0 0, rfl, ownE_zero _ _, ownI_nil _ _, BF.out⟩
  · have hne : ((e0 : Int) != 0) = true := by simp [he0]
    obtain rfl : R = ⟨false, 0, 0, 0, [], []⟩ := HG.out.trans (if_neg he0)
    clear HG he0 UN SZ LE LZ RB RBL RE
    have d0 := R1.out.cellAt (o := 0) rfl
    have d1 := R1.out.cellAt (o := 1) rfl
    have d2 := R1.out.cellAt (o := 2) rfl
    have d3 := R1.out.cellAt (o := 3) rfl
    have d4 := R1.out.cellAt (o := 4) rfl
    have f0 : w1.frozen? ⟨w.heap.size, 0, none⟩ = false := R1.out.frozen
    have f1 : w1.frozen? ⟨w.heap.size, 1, none⟩ = false := R1.out.frozen
    have f2 : w1.frozen? ⟨w.heap.size, 2, none⟩ = false := R1.out.frozen
    have f3 : w1.frozen? ⟨w.heap.size, 3, none⟩ = false := R1.out.frozen
    have f4 : w1.frozen? ⟨w.heap.size, 4, none⟩ = false := R1.out.frozen
    have FV := hid (five R1.out (.int .i64 0) (.int .i64 0) (.int .i64 0) (.slice none 0 0) (.slice none 0 0))
    have BF := hid (B1.out.trans (keep_below FV.out.2 (fun j hj e => by omega) B1.out.size))
    go_wp2
    (try simp only [Exit.inBlock, Exit.then])
    refine bodyPost_ret (ret_ct3 (p := 4) (u := 5) (t := 6) rfl _ _ w.heap.size #[.int .i64 0, .int .i64 0, .int .i64 0, .slice none 0 0, .slice none 0 0] (.bool false) (.int .i64 0) rfl rfl rfl (run_loadVar_row _ _ _ _ _ _ _ FV.out.1 Tryz.underlying126 rfl (by kernel_rfl))) rfl ?_
    exact ⟨.slice none 0 0, .slice none 0 0, rfl, ownE_zero _ _, ownI_nil _ _, BF.out⟩
end Go.Proofs.YtefbioainibmaaaGreatDoor
namespace Go.Proofs.YtefbioainibmaaaGreatDoor
open Go.RowKit Go.Maps
set_option linter.unusedVariables false
set_option linter.unusedSimpArgs false

/-- a row that a call owns, or the beginning of one, cut at its end -/
def ORow (w : World) (B t k : Nat) (v : Value) (n : Nat) (xs : List Value) : Prop :=
  w.ownsRow B t k v n xs ∨ (xs.length = n * k ∧ ∃ g cs, v = .slice (some ⟨g, 0, none⟩) n n ∧ B ≤ g ∧ RowIs w g cs t ∧ n ≤ 1048576 ∧ cs.take (n * k) = xs)
variable {w w' : World} {B t k n : Nat} {v : Value} {xs : List Value}
theorem ORow.form (h : ORow w B t k v n xs) : ∃ ad cap, v = .slice ad n cap := by
  rcases h with h | ⟨_, g, cs, e, _⟩
  · exact row_form h
  · exact ⟨_, _, e⟩
theorem ORow.len (h : ORow w B t k v n xs) : xs.length = n * k := by
  rcases h with h | ⟨h, _⟩
  · exact h.1
  · exact h
theorem ORow.keep {S : Nat → Prop} (h : ORow w B t k v n xs) (hk : Keep S w w') (hS : ∀ g, v.ownBlock = some g → ¬ S g) : ORow w' B t k v n xs := by
  rcases h with h | ⟨h1, g, cs, rfl, h2, h3, h4, h5⟩
  · exact .inl (hk.ownsRow h hS)
  · exact .inr ⟨h1, g, cs, rfl, h2, h3.keep hk (hS g rfl), h4, h5⟩
theorem ORow.next (h : ORow w B t k v n xs) (b : Below w.heap.size w w') : ORow w' B t k v n xs := h.keep (b.keep (fun _ => False)) (fun _ _ h => h)
theorem ORow.ge (h : ORow w B t k v n xs) {g : Nat} (hg : v.ownBlock = some g) : B ≤ g := by
  rcases h with h | ⟨_, g', cs, rfl, h2, _⟩
  · exact ownsRow_ge h hg
  · have : g' = g := by simpa [Value.ownBlock] using hg
    omega
theorem ORow.block (h : ORow w B t k v n xs) {g : Nat} (hg : v.ownBlock = some g) : ∃ cs, RowIs w g cs t := by
  rcases h with h | ⟨_, g', cs, rfl, _, h3, _⟩
  · rcases h.2 with ⟨e0, _⟩ | ⟨g1, c1, cur1, e0, _, hb, _⟩
    · rw [e0] at hg; simp [Value.ownBlock] at hg
    · rw [e0] at hg
      simp [Value.ownBlock] at hg
      subst hg
      exact ⟨cur1.toList, by show w.heap[g1]? = _; rw [hb]⟩
  · have : g' = g := by simpa [Value.ownBlock] using hg
    subst this
    exact ⟨cs, h3⟩
theorem ORow.lt (h : ORow w B t k v n xs) {g : Nat} (hg : v.ownBlock = some g) : g < w.heap.size := by
  obtain ⟨cs, r⟩ := h.block hg
  exact r.lt
theorem rows_ty {g t t' : Nat} {cs cs' : List Value} (h : RowIs w g cs t) (h' : RowIs w g cs' t') : t = t' := by
  have e : w.heap[g]? = _ := h
  rw [show w.heap[g]? = _ from h'] at e
  injection e with e
  injection e with _ e _
  exact e.symm
theorem ORow.ne_row (h : ORow w B t k v n xs) {g t' : Nat} {cs : List Value} (r : RowIs w g cs t') (hne : t ≠ t') : ¬ v.ownBlock = some g := fun hg => by
  obtain ⟨cs', r'⟩ := h.block hg
  exact hne (rows_ty r' r)
theorem ORow.apart (h : ORow w B t k v n xs) {B' t' k' n' : Nat} {v' : Value} {xs' : List Value} (h' : ORow w B' t' k' v' n' xs') (hne : t ≠ t') {g : Nat} (hg : v.ownBlock = some g) : ¬ v'.ownBlock = some g := fun hg' => by
  obtain ⟨cs, r⟩ := h.block hg
  obtain ⟨cs', r'⟩ := h'.block hg'
  exact hne (rows_ty r r')
theorem ORow.base (h : ORow w B t k v n xs) {B' : Nat} (hB : B' ≤ B) : ORow w B' t k v n xs := by
  rcases h with h | ⟨h1, g, cs, rfl, h2, r⟩
  · exact .inl (ownsRow_base h hB)
  · exact .inr ⟨h1, g, cs, rfl, Nat.le_trans hB h2, r⟩
theorem ORow.rowC (h : ORow w B t k v n xs) : RowC w v n xs := by
  rcases h with h | ⟨h1, g, cs, rfl, h2, h3, h4, h5⟩
  · exact RowC.own h
  · refine .inr ⟨g, 0, n, rfl, Nat.le_refl _, h3.lt, fun j u hu => ?_⟩
    rw [Nat.zero_add]
    refine h3.cellAt ?_
    rw [← h5, List.getElem?_take] at hu
    split at hu
    · exact hu
    · cases hu
end Go.Proofs.YtefbioainibmaaaGreatDoor
