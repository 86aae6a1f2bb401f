/- Joined: The walk of RaftNew, arm 3. The walk of RaftNew, arm 4. The walk of RaftNew, arm 5. The walk of RaftNew, arm 6. The walk of RaftNew where all may be. The walk of RaftNew where the entries may not be. The walk of RaftNew. -/
import Derived.Test.YtlkidnfgodficaaGreatJoined20
namespace Go.Proofs.YtlkidnfgodficaaGreat
open Go.RowKit Go.Maps
set_option linter.unusedVariables false
set_option linter.unusedSimpArgs false

set_option maxRecDepth 100000 in
set_option maxHeartbeats 8000000 in
theorem raftNew_3 (me tm vt : Int) (v : Value) (es : List En) (w : World) (hv : EntI w v es) (hz : es.length ≤ 4398046511104) (hy : ∀ x ∈ es, x.da.size ≤ 140737488355328) (h0 : 0 ≤ me) (h1 : me < 7) (h2 : ¬ 2 ≤ tm) : Calls Tryz.prog 5 #[.int .i64 me, .agg #[.int .i64 tm, .int .i64 vt], v] w fun e w' => e = .returned (.bool true) ∧ Below w.heap.size w w' := by
  have NI := hid nils
  have AW := hid (fun W => awake10 W)
  obtain ⟨ad, cap, rfl, hcl⟩ := hv.form
  have HC := hid hcl
  have HZ := hid hz
  have R0 : Hid (RowIs (w.alloc (.cells #[.int .i64 tm, .int .i64 vt] 43)) w.heap.size [.int .i64 tm, .int .i64 vt] 43) := srow w _ _
  have BQ : Hid (∀ q, Below w.heap.size w (((w.alloc (.cells #[.int .i64 tm, .int .i64 vt] 43)).drewN q).alloc (.cells #[.int .i64 0, .int .i64 2] 3))) := fun q => below_al (below_drewN (below_al (Below.refl _ _) _) q) _
  have IQ : Hid (∀ q, IntsI (((w.alloc (.cells #[.int .i64 tm, .int .i64 vt] 43)).drewN q).alloc (.cells #[.int .i64 0, .int .i64 2] 3)) (.slice (some ⟨w.heap.size + 1, 0, none⟩) 2 2) [0, 2]) := fun q => by
    have r := srow ((w.alloc (.cells #[.int .i64 tm, .int .i64 vt] 43)).drewN q) (isC [0, 2]) 3
    have hz : ((w.alloc (.cells #[.int .i64 tm, .int .i64 vt] 43)).drewN q).heap.size = w.heap.size + 1 := by rw [show ((w.alloc (.cells #[.int .i64 tm, .int .i64 vt] 43)).drewN q).heap.size = (w.alloc (.cells #[.int .i64 tm, .int .i64 vt] 43)).heap.size from by have := (keep_drewN (w.alloc (.cells #[.int .i64 tm, .int .i64 vt] 43)) q).size; have h2 := World.heap_drewN (w.alloc (.cells #[.int .i64 tm, .int .i64 vt] 43)) q; rw [h2]]; simp
    rw [hz] at r
    exact row_ints r
  have NW : Hid (∀ q, Calls Tryz.prog 15 #[.int .i64 me, .int .i64 tm, .int .i64 vt, .agg #[.int .i64 3, .int .i64 2, .slice (some ⟨w.heap.size + 1, 0, none⟩) 2 2, .string ⟨#[]⟩], .slice ad es.length cap, .int .i64 7] (((w.alloc (.cells #[.int .i64 tm, .int .i64 vt] 43)).drewN q).alloc (.cells #[.int .i64 0, .int .i64 2] 3)) fun e w' => e = .returned (.tuple #[.pointer none, .int .i64 1]) ∧ Below (((w.alloc (.cells #[.int .i64 tm, .int .i64 vt] 43)).drewN q).alloc (.cells #[.int .i64 0, .int .i64 2] 3)).heap.size (((w.alloc (.cells #[.int .i64 tm, .int .i64 vt] 43)).drewN q).alloc (.cells #[.int .i64 0, .int .i64 2] 3)) w') := fun q => nnew_bad me tm vt _ shN _ es 7 _ (IQ.out q) (hv.next (BQ.out q)) hz (by decide) (.inr (.inl (by show tm < 2; omega)))
  have e0 : decide (me ≥ 0) = true := decide_eq_true h0
  have f0 : decide (0 ≤ me) = true := decide_eq_true h0
  have e1 : decide (me < 7) = true := decide_eq_true h1
  have f1 : decide (me < 7) = true := decide_eq_true h1
  have e2 : decide (tm ≥ 2) = false := decide_eq_false h2
  have f2 : decide (2 ≤ tm) = false := decide_eq_false h2
  clear hz hy h0 h1 h2
  have y0 := R0.out.cellAt (o := 0) rfl
  have y1 := R0.out.cellAt (o := 1) rfl
  clear hv hcl
  go_enter Tryz.func5, Tryz.ntmps5
  go_wp2
  go_quiet (fail)
  have NW2 := hid (NW.out nq)
  have BQ2 := hid (BQ.out nq)
  clear NW BQ IQ R0 y0 y1
  go_wp2_with fail
  refine NW2.out.mono ?_
  rintro e w2 ⟨rfl, b2⟩
  have B2 := hid (below_on BQ2.out b2)
  clear NW2 b2 BQ2
  go_wp2
  go_loopg [11, 12, 13] es.length (fun gk o l i wr => ∃ (k : Nat) (ok : Bool) (la : Int), k ≤ es.length ∧ gk = es.length - k ∧ o = .bool ok ∧ l = .int .i64 la ∧ i = .int .i64 (k : Int) ∧ Hid (ok = false) ∧ Hid (Below w.heap.size w wr))
  case atStart => exact ⟨0, false, 2, Nat.zero_le _, rfl, rfl, rfl, rfl, rfl, B2⟩
  case round =>
    clear B2 e0 f0 e1 f1 e2 f2
    obtain ⟨k, ok, la, hk, hgk, rfl, rfl, rfl, HI, HB⟩ := hrel
    have hok := HI.out
    subst hok
    by_cases hlt : k < es.length
    · have hlb := HZ.out
      have hk1 : (k : Int) < (es.length : Int) := by omega
      have hk0 : (0 : Int) ≤ (k : Int) := by omega
      have hwk : wrap64 ((k : Int) + 1) = ((k + 1 : Nat) : Int) := by rw [IntWalk.wrap64_in _ (by omega)]; omega
      obtain ⟨b, off, hadr, hb, c0, c1, c2⟩ := HC.out k hlt
      have d0 := (HB.out.cell (p := ⟨b, off + k * 3, none⟩) hb).trans c0
      have d1 := (HB.out.cell (p := ⟨b, off + k * 3 + 1, none⟩) hb).trans c1
      have d2 := (HB.out.cell (p := ⟨b, off + k * 3 + 2, none⟩) hb).trans c2
      have HLT := hid hlt
      have HGK := hid hgk
      have HM5 : Hid (es.length - (k + 1) < es.length - k) := by show _ < _; omega
      clear c0 c1 c2 hb hlb hk hgk HC NI AW
      generalize es[k] = x at *
      obtain ⟨xt, kd, da⟩ := x
      simp only at *
      subst hadr
      clear hlt
      go_wp2
      go_roundg (es.length - (k + 1))
      case measure => rw [HGK.out]; exact HM5.out
      case rel => exact ⟨k + 1, false, xt, HLT.out, rfl, rfl, rfl, by first | rw [hwk] | rfl | simp, rfl, HB⟩
    · have hk9 : k = es.length := by omega
      have hdl : decide ((k : Int) < (es.length : Int)) = false := decide_eq_false (by omega)
      have hdl2 : decide (k < es.length) = false := decide_eq_false (by omega)
      clear HC HZ hlt hk hk9 hgk HI
      go_wp2_with fail
      refine (AW.out _).mono ?_
      rintro e w5 ⟨rfl, b5⟩
      have B5 := hid (below_on HB.out b5)
      clear AW b5 HB
      go_wp2_with fail
      refine (NI.out.pr _ _).mono ?_
      rintro e wz ⟨rfl, hz⟩
      subst hz
      go_wp2_with fail
      refine (NI.out.ch _ _).mono ?_
      rintro e wz ⟨rfl, hz⟩
      subst hz
      go_wp2_with fail
      refine (NI.out.rd _).mono ?_
      rintro e wz ⟨rfl, hz⟩
      subst hz
      go_wp2_with fail
      refine (NI.out.hd _).mono ?_
      rintro e wz ⟨rfl, hz⟩
      subst hz
      go_wp2_with fail
      refine (NI.out.tk _).mono ?_
      rintro e wt ⟨rfl, bt⟩
      have BT := hid (below_al (below_on B5.out bt) (.cells #[.int .i64 0, .int .i64 0, .slice none 0 0, .string ⟨#[]⟩] 49))
      clear bt B5
      go_wp2_with fail
      refine (NI.out.cp _ _ _).mono ?_
      rintro e wz ⟨rfl, hz⟩
      subst hz
      go_wp2_with fail
      refine (NI.out.ti _ _).mono ?_
      rintro e wz ⟨rfl, hz⟩
      subst hz
      go_wp2_with fail
      refine (NI.out.st _).mono ?_
      rintro e wu ⟨rfl, bu⟩
      have BU := hid (below_on BT.out bu)
      clear bu BT
      go_wp2_with fail
      refine (NI.out.ld _).mono ?_
      rintro e wz ⟨rfl, hz⟩
      subst hz
      go_wp2_with fail
      refine (NI.out.cm _).mono ?_
      rintro e wz ⟨rfl, hz⟩
      subst hz
      go_wp2_with fail
      refine (NI.out.su _ _ _).mono ?_
      rintro e wv ⟨rfl, bv⟩
      have BV := hid (below_on BU.out bv)
      clear bv BU
      go_wp2_with fail
      refine (NI.out.me _).mono ?_
      rintro e wz ⟨rfl, hz⟩
      subst hz
      go_wp2
      go_ret
      exact ⟨rfl, BV.out⟩
end Go.Proofs.YtlkidnfgodficaaGreat
namespace Go.Proofs.YtlkidnfgodficaaGreat
open Go.RowKit Go.Maps
set_option linter.unusedVariables false
set_option linter.unusedSimpArgs false

set_option maxRecDepth 100000 in
set_option maxHeartbeats 8000000 in
theorem raftNew_4 (me tm vt : Int) (v : Value) (es : List En) (w : World) (hv : EntI w v es) (hz : es.length ≤ 4398046511104) (hy : ∀ x ∈ es, x.da.size ≤ 140737488355328) (h0 : 0 ≤ me) (h1 : me < 7) (h2 : 2 ≤ tm) (h3 : ¬ tm ≤ 1099511627776) : Calls Tryz.prog 5 #[.int .i64 me, .agg #[.int .i64 tm, .int .i64 vt], v] w fun e w' => e = .returned (.bool true) ∧ Below w.heap.size w w' := by
  have NI := hid nils
  have AW := hid (fun W => awake10 W)
  obtain ⟨ad, cap, rfl, hcl⟩ := hv.form
  have HC := hid hcl
  have HZ := hid hz
  have R0 : Hid (RowIs (w.alloc (.cells #[.int .i64 tm, .int .i64 vt] 43)) w.heap.size [.int .i64 tm, .int .i64 vt] 43) := srow w _ _
  have BQ : Hid (∀ q, Below w.heap.size w (((w.alloc (.cells #[.int .i64 tm, .int .i64 vt] 43)).drewN q).alloc (.cells #[.int .i64 0, .int .i64 2] 3))) := fun q => below_al (below_drewN (below_al (Below.refl _ _) _) q) _
  have IQ : Hid (∀ q, IntsI (((w.alloc (.cells #[.int .i64 tm, .int .i64 vt] 43)).drewN q).alloc (.cells #[.int .i64 0, .int .i64 2] 3)) (.slice (some ⟨w.heap.size + 1, 0, none⟩) 2 2) [0, 2]) := fun q => by
    have r := srow ((w.alloc (.cells #[.int .i64 tm, .int .i64 vt] 43)).drewN q) (isC [0, 2]) 3
    have hz : ((w.alloc (.cells #[.int .i64 tm, .int .i64 vt] 43)).drewN q).heap.size = w.heap.size + 1 := by rw [show ((w.alloc (.cells #[.int .i64 tm, .int .i64 vt] 43)).drewN q).heap.size = (w.alloc (.cells #[.int .i64 tm, .int .i64 vt] 43)).heap.size from by have := (keep_drewN (w.alloc (.cells #[.int .i64 tm, .int .i64 vt] 43)) q).size; have h2 := World.heap_drewN (w.alloc (.cells #[.int .i64 tm, .int .i64 vt] 43)) q; rw [h2]]; simp
    rw [hz] at r
    exact row_ints r
  have NW : Hid (∀ q, Calls Tryz.prog 15 #[.int .i64 me, .int .i64 tm, .int .i64 vt, .agg #[.int .i64 3, .int .i64 2, .slice (some ⟨w.heap.size + 1, 0, none⟩) 2 2, .string ⟨#[]⟩], .slice ad es.length cap, .int .i64 7] (((w.alloc (.cells #[.int .i64 tm, .int .i64 vt] 43)).drewN q).alloc (.cells #[.int .i64 0, .int .i64 2] 3)) fun e w' => e = .returned (.tuple #[.pointer none, .int .i64 1]) ∧ Below (((w.alloc (.cells #[.int .i64 tm, .int .i64 vt] 43)).drewN q).alloc (.cells #[.int .i64 0, .int .i64 2] 3)).heap.size (((w.alloc (.cells #[.int .i64 tm, .int .i64 vt] 43)).drewN q).alloc (.cells #[.int .i64 0, .int .i64 2] 3)) w') := fun q => nnew_bad me tm vt _ shN _ es 7 _ (IQ.out q) (hv.next (BQ.out q)) hz (by decide) (.inr (.inr (.inl (by omega))))
  have e0 : decide (me ≥ 0) = true := decide_eq_true h0
  have f0 : decide (0 ≤ me) = true := decide_eq_true h0
  have e1 : decide (me < 7) = true := decide_eq_true h1
  have f1 : decide (me < 7) = true := decide_eq_true h1
  have e2 : decide (tm ≥ 2) = true := decide_eq_true h2
  have f2 : decide (2 ≤ tm) = true := decide_eq_true h2
  have e3 : decide (tm ≤ 1099511627776) = false := decide_eq_false h3
  have f3 : decide (tm ≤ 1099511627776) = false := decide_eq_false h3
  clear hz hy h0 h1 h2 h3
  have y0 := R0.out.cellAt (o := 0) rfl
  have y1 := R0.out.cellAt (o := 1) rfl
  clear hv hcl
  go_enter Tryz.func5, Tryz.ntmps5
  go_wp2
  go_quiet (fail)
  have NW2 := hid (NW.out nq)
  have BQ2 := hid (BQ.out nq)
  clear NW BQ IQ R0 y0 y1
  go_wp2_with fail
  refine NW2.out.mono ?_
  rintro e w2 ⟨rfl, b2⟩
  have B2 := hid (below_on BQ2.out b2)
  clear NW2 b2 BQ2
  go_wp2
  go_loopg [11, 12, 13] es.length (fun gk o l i wr => ∃ (k : Nat) (ok : Bool) (la : Int), k ≤ es.length ∧ gk = es.length - k ∧ o = .bool ok ∧ l = .int .i64 la ∧ i = .int .i64 (k : Int) ∧ Hid (ok = false) ∧ Hid (Below w.heap.size w wr))
  case atStart => exact ⟨0, false, 2, Nat.zero_le _, rfl, rfl, rfl, rfl, rfl, B2⟩
  case round =>
    clear B2 e0 f0 e1 f1 e2 f2 e3 f3
    obtain ⟨k, ok, la, hk, hgk, rfl, rfl, rfl, HI, HB⟩ := hrel
    have hok := HI.out
    subst hok
    by_cases hlt : k < es.length
    · have hlb := HZ.out
      have hk1 : (k : Int) < (es.length : Int) := by omega
      have hk0 : (0 : Int) ≤ (k : Int) := by omega
      have hwk : wrap64 ((k : Int) + 1) = ((k + 1 : Nat) : Int) := by rw [IntWalk.wrap64_in _ (by omega)]; omega
      obtain ⟨b, off, hadr, hb, c0, c1, c2⟩ := HC.out k hlt
      have d0 := (HB.out.cell (p := ⟨b, off + k * 3, none⟩) hb).trans c0
      have d1 := (HB.out.cell (p := ⟨b, off + k * 3 + 1, none⟩) hb).trans c1
      have d2 := (HB.out.cell (p := ⟨b, off + k * 3 + 2, none⟩) hb).trans c2
      have HLT := hid hlt
      have HGK := hid hgk
      have HM5 : Hid (es.length - (k + 1) < es.length - k) := by show _ < _; omega
      clear c0 c1 c2 hb hlb hk hgk HC NI AW
      generalize es[k] = x at *
      obtain ⟨xt, kd, da⟩ := x
      simp only at *
      subst hadr
      clear hlt
      go_wp2
      go_roundg (es.length - (k + 1))
      case measure => rw [HGK.out]; exact HM5.out
      case rel => exact ⟨k + 1, false, xt, HLT.out, rfl, rfl, rfl, by first | rw [hwk] | rfl | simp, rfl, HB⟩
    · have hk9 : k = es.length := by omega
      have hdl : decide ((k : Int) < (es.length : Int)) = false := decide_eq_false (by omega)
      have hdl2 : decide (k < es.length) = false := decide_eq_false (by omega)
      clear HC HZ hlt hk hk9 hgk HI
      go_wp2_with fail
      refine (AW.out _).mono ?_
      rintro e w5 ⟨rfl, b5⟩
      have B5 := hid (below_on HB.out b5)
      clear AW b5 HB
      go_wp2_with fail
      refine (NI.out.pr _ _).mono ?_
      rintro e wz ⟨rfl, hz⟩
      subst hz
      go_wp2_with fail
      refine (NI.out.ch _ _).mono ?_
      rintro e wz ⟨rfl, hz⟩
      subst hz
      go_wp2_with fail
      refine (NI.out.rd _).mono ?_
      rintro e wz ⟨rfl, hz⟩
      subst hz
      go_wp2_with fail
      refine (NI.out.hd _).mono ?_
      rintro e wz ⟨rfl, hz⟩
      subst hz
      go_wp2_with fail
      refine (NI.out.tk _).mono ?_
      rintro e wt ⟨rfl, bt⟩
      have BT := hid (below_al (below_on B5.out bt) (.cells #[.int .i64 0, .int .i64 0, .slice none 0 0, .string ⟨#[]⟩] 49))
      clear bt B5
      go_wp2_with fail
      refine (NI.out.cp _ _ _).mono ?_
      rintro e wz ⟨rfl, hz⟩
      subst hz
      go_wp2_with fail
      refine (NI.out.ti _ _).mono ?_
      rintro e wz ⟨rfl, hz⟩
      subst hz
      go_wp2_with fail
      refine (NI.out.st _).mono ?_
      rintro e wu ⟨rfl, bu⟩
      have BU := hid (below_on BT.out bu)
      clear bu BT
      go_wp2_with fail
      refine (NI.out.ld _).mono ?_
      rintro e wz ⟨rfl, hz⟩
      subst hz
      go_wp2_with fail
      refine (NI.out.cm _).mono ?_
      rintro e wz ⟨rfl, hz⟩
      subst hz
      go_wp2_with fail
      refine (NI.out.su _ _ _).mono ?_
      rintro e wv ⟨rfl, bv⟩
      have BV := hid (below_on BU.out bv)
      clear bv BU
      go_wp2_with fail
      refine (NI.out.me _).mono ?_
      rintro e wz ⟨rfl, hz⟩
      subst hz
      go_wp2
      go_ret
      exact ⟨rfl, BV.out⟩
end Go.Proofs.YtlkidnfgodficaaGreat
namespace Go.Proofs.YtlkidnfgodficaaGreat
open Go.RowKit Go.Maps
set_option linter.unusedVariables false
set_option linter.unusedSimpArgs false

set_option maxRecDepth 100000 in
set_option maxHeartbeats 8000000 in
theorem raftNew_5 (me tm vt : Int) (v : Value) (es : List En) (w : World) (hv : EntI w v es) (hz : es.length ≤ 4398046511104) (hy : ∀ x ∈ es, x.da.size ≤ 140737488355328) (h0 : 0 ≤ me) (h1 : me < 7) (h2 : 2 ≤ tm) (h3 : tm ≤ 1099511627776) (h4 : ¬ -1 ≤ vt) : Calls Tryz.prog 5 #[.int .i64 me, .agg #[.int .i64 tm, .int .i64 vt], v] w fun e w' => e = .returned (.bool true) ∧ Below w.heap.size w w' := by
  have NI := hid nils
  have AW := hid (fun W => awake10 W)
  obtain ⟨ad, cap, rfl, hcl⟩ := hv.form
  have HC := hid hcl
  have HZ := hid hz
  have R0 : Hid (RowIs (w.alloc (.cells #[.int .i64 tm, .int .i64 vt] 43)) w.heap.size [.int .i64 tm, .int .i64 vt] 43) := srow w _ _
  have BQ : Hid (∀ q, Below w.heap.size w (((w.alloc (.cells #[.int .i64 tm, .int .i64 vt] 43)).drewN q).alloc (.cells #[.int .i64 0, .int .i64 2] 3))) := fun q => below_al (below_drewN (below_al (Below.refl _ _) _) q) _
  have IQ : Hid (∀ q, IntsI (((w.alloc (.cells #[.int .i64 tm, .int .i64 vt] 43)).drewN q).alloc (.cells #[.int .i64 0, .int .i64 2] 3)) (.slice (some ⟨w.heap.size + 1, 0, none⟩) 2 2) [0, 2]) := fun q => by
    have r := srow ((w.alloc (.cells #[.int .i64 tm, .int .i64 vt] 43)).drewN q) (isC [0, 2]) 3
    have hz : ((w.alloc (.cells #[.int .i64 tm, .int .i64 vt] 43)).drewN q).heap.size = w.heap.size + 1 := by rw [show ((w.alloc (.cells #[.int .i64 tm, .int .i64 vt] 43)).drewN q).heap.size = (w.alloc (.cells #[.int .i64 tm, .int .i64 vt] 43)).heap.size from by have := (keep_drewN (w.alloc (.cells #[.int .i64 tm, .int .i64 vt] 43)) q).size; have h2 := World.heap_drewN (w.alloc (.cells #[.int .i64 tm, .int .i64 vt] 43)) q; rw [h2]]; simp
    rw [hz] at r
    exact row_ints r
  have NW : Hid (∀ q, Calls Tryz.prog 15 #[.int .i64 me, .int .i64 tm, .int .i64 vt, .agg #[.int .i64 3, .int .i64 2, .slice (some ⟨w.heap.size + 1, 0, none⟩) 2 2, .string ⟨#[]⟩], .slice ad es.length cap, .int .i64 7] (((w.alloc (.cells #[.int .i64 tm, .int .i64 vt] 43)).drewN q).alloc (.cells #[.int .i64 0, .int .i64 2] 3)) fun e w' => e = .returned (.tuple #[.pointer none, .int .i64 1]) ∧ Below (((w.alloc (.cells #[.int .i64 tm, .int .i64 vt] 43)).drewN q).alloc (.cells #[.int .i64 0, .int .i64 2] 3)).heap.size (((w.alloc (.cells #[.int .i64 tm, .int .i64 vt] 43)).drewN q).alloc (.cells #[.int .i64 0, .int .i64 2] 3)) w') := fun q => nnew_bad me tm vt _ shN _ es 7 _ (IQ.out q) (hv.next (BQ.out q)) hz (by decide) (.inr (.inr (.inr (.inl ⟨by omega, by unfold ndOk; rw [decide_eq_false (show ¬ 0 ≤ vt by omega)]; rfl⟩))))
  have e0 : decide (me ≥ 0) = true := decide_eq_true h0
  have f0 : decide (0 ≤ me) = true := decide_eq_true h0
  have e1 : decide (me < 7) = true := decide_eq_true h1
  have f1 : decide (me < 7) = true := decide_eq_true h1
  have e2 : decide (tm ≥ 2) = true := decide_eq_true h2
  have f2 : decide (2 ≤ tm) = true := decide_eq_true h2
  have e3 : decide (tm ≤ 1099511627776) = true := decide_eq_true h3
  have f3 : decide (tm ≤ 1099511627776) = true := decide_eq_true h3
  have e4 : decide (vt ≥ -1) = false := decide_eq_false h4
  have f4 : decide (-1 ≤ vt) = false := decide_eq_false h4
  clear hz hy h0 h1 h2 h3 h4
  have y0 := R0.out.cellAt (o := 0) rfl
  have y1 := R0.out.cellAt (o := 1) rfl
  clear hv hcl
  go_enter Tryz.func5, Tryz.ntmps5
  go_wp2
  go_quiet (fail)
  have NW2 := hid (NW.out nq)
  have BQ2 := hid (BQ.out nq)
  clear NW BQ IQ R0 y0 y1
  go_wp2_with fail
  refine NW2.out.mono ?_
  rintro e w2 ⟨rfl, b2⟩
  have B2 := hid (below_on BQ2.out b2)
  clear NW2 b2 BQ2
  go_wp2
  go_loopg [11, 12, 13] es.length (fun gk o l i wr => ∃ (k : Nat) (ok : Bool) (la : Int), k ≤ es.length ∧ gk = es.length - k ∧ o = .bool ok ∧ l = .int .i64 la ∧ i = .int .i64 (k : Int) ∧ Hid (ok = false) ∧ Hid (Below w.heap.size w wr))
  case atStart => exact ⟨0, false, 2, Nat.zero_le _, rfl, rfl, rfl, rfl, rfl, B2⟩
  case round =>
    clear B2 e0 f0 e1 f1 e2 f2 e3 f3 e4 f4
    obtain ⟨k, ok, la, hk, hgk, rfl, rfl, rfl, HI, HB⟩ := hrel
    have hok := HI.out
    subst hok
    by_cases hlt : k < es.length
    · have hlb := HZ.out
      have hk1 : (k : Int) < (es.length : Int) := by omega
      have hk0 : (0 : Int) ≤ (k : Int) := by omega
      have hwk : wrap64 ((k : Int) + 1) = ((k + 1 : Nat) : Int) := by rw [IntWalk.wrap64_in _ (by omega)]; omega
      obtain ⟨b, off, hadr, hb, c0, c1, c2⟩ := HC.out k hlt
      have d0 := (HB.out.cell (p := ⟨b, off + k * 3, none⟩) hb).trans c0
      have d1 := (HB.out.cell (p := ⟨b, off + k * 3 + 1, none⟩) hb).trans c1
      have d2 := (HB.out.cell (p := ⟨b, off + k * 3 + 2, none⟩) hb).trans c2
      have HLT := hid hlt
      have HGK := hid hgk
      have HM5 : Hid (es.length - (k + 1) < es.length - k) := by show _ < _; omega
      clear c0 c1 c2 hb hlb hk hgk HC NI AW
      generalize es[k] = x at *
      obtain ⟨xt, kd, da⟩ := x
      simp only at *
      subst hadr
      clear hlt
      go_wp2
      go_roundg (es.length - (k + 1))
      case measure => rw [HGK.out]; exact HM5.out
      case rel => exact ⟨k + 1, false, xt, HLT.out, rfl, rfl, rfl, by first | rw [hwk] | rfl | simp, rfl, HB⟩
    · have hk9 : k = es.length := by omega
      have hdl : decide ((k : Int) < (es.length : Int)) = false := decide_eq_false (by omega)
      have hdl2 : decide (k < es.length) = false := decide_eq_false (by omega)
      clear HC HZ hlt hk hk9 hgk HI
      go_wp2_with fail
      refine (AW.out _).mono ?_
      rintro e w5 ⟨rfl, b5⟩
      have B5 := hid (below_on HB.out b5)
      clear AW b5 HB
      go_wp2_with fail
      refine (NI.out.pr _ _).mono ?_
      rintro e wz ⟨rfl, hz⟩
      subst hz
      go_wp2_with fail
      refine (NI.out.ch _ _).mono ?_
      rintro e wz ⟨rfl, hz⟩
      subst hz
      go_wp2_with fail
      refine (NI.out.rd _).mono ?_
      rintro e wz ⟨rfl, hz⟩
      subst hz
      go_wp2_with fail
      refine (NI.out.hd _).mono ?_
      rintro e wz ⟨rfl, hz⟩
      subst hz
      go_wp2_with fail
      refine (NI.out.tk _).mono ?_
      rintro e wt ⟨rfl, bt⟩
      have BT := hid (below_al (below_on B5.out bt) (.cells #[.int .i64 0, .int .i64 0, .slice none 0 0, .string ⟨#[]⟩] 49))
      clear bt B5
      go_wp2_with fail
      refine (NI.out.cp _ _ _).mono ?_
      rintro e wz ⟨rfl, hz⟩
      subst hz
      go_wp2_with fail
      refine (NI.out.ti _ _).mono ?_
      rintro e wz ⟨rfl, hz⟩
      subst hz
      go_wp2_with fail
      refine (NI.out.st _).mono ?_
      rintro e wu ⟨rfl, bu⟩
      have BU := hid (below_on BT.out bu)
      clear bu BT
      go_wp2_with fail
      refine (NI.out.ld _).mono ?_
      rintro e wz ⟨rfl, hz⟩
      subst hz
      go_wp2_with fail
      refine (NI.out.cm _).mono ?_
      rintro e wz ⟨rfl, hz⟩
      subst hz
      go_wp2_with fail
      refine (NI.out.su _ _ _).mono ?_
      rintro e wv ⟨rfl, bv⟩
      have BV := hid (below_on BU.out bv)
      clear bv BU
      go_wp2_with fail
      refine (NI.out.me _).mono ?_
      rintro e wz ⟨rfl, hz⟩
      subst hz
      go_wp2
      go_ret
      exact ⟨rfl, BV.out⟩
end Go.Proofs.YtlkidnfgodficaaGreat
namespace Go.Proofs.YtlkidnfgodficaaGreat
open Go.RowKit Go.Maps
set_option linter.unusedVariables false
set_option linter.unusedSimpArgs false

set_option maxRecDepth 100000 in
set_option maxHeartbeats 8000000 in
theorem raftNew_6 (me tm vt : Int) (v : Value) (es : List En) (w : World) (hv : EntI w v es) (hz : es.length ≤ 4398046511104) (hy : ∀ x ∈ es, x.da.size ≤ 140737488355328) (h0 : 0 ≤ me) (h1 : me < 7) (h2 : 2 ≤ tm) (h3 : tm ≤ 1099511627776) (h4 : -1 ≤ vt) (h5 : ¬ vt < 7) : Calls Tryz.prog 5 #[.int .i64 me, .agg #[.int .i64 tm, .int .i64 vt], v] w fun e w' => e = .returned (.bool true) ∧ Below w.heap.size w w' := by
  have NI := hid nils
  have AW := hid (fun W => awake10 W)
  obtain ⟨ad, cap, rfl, hcl⟩ := hv.form
  have HC := hid hcl
  have HZ := hid hz
  have R0 : Hid (RowIs (w.alloc (.cells #[.int .i64 tm, .int .i64 vt] 43)) w.heap.size [.int .i64 tm, .int .i64 vt] 43) := srow w _ _
  have BQ : Hid (∀ q, Below w.heap.size w (((w.alloc (.cells #[.int .i64 tm, .int .i64 vt] 43)).drewN q).alloc (.cells #[.int .i64 0, .int .i64 2] 3))) := fun q => below_al (below_drewN (below_al (Below.refl _ _) _) q) _
  have IQ : Hid (∀ q, IntsI (((w.alloc (.cells #[.int .i64 tm, .int .i64 vt] 43)).drewN q).alloc (.cells #[.int .i64 0, .int .i64 2] 3)) (.slice (some ⟨w.heap.size + 1, 0, none⟩) 2 2) [0, 2]) := fun q => by
    have r := srow ((w.alloc (.cells #[.int .i64 tm, .int .i64 vt] 43)).drewN q) (isC [0, 2]) 3
    have hz : ((w.alloc (.cells #[.int .i64 tm, .int .i64 vt] 43)).drewN q).heap.size = w.heap.size + 1 := by rw [show ((w.alloc (.cells #[.int .i64 tm, .int .i64 vt] 43)).drewN q).heap.size = (w.alloc (.cells #[.int .i64 tm, .int .i64 vt] 43)).heap.size from by have := (keep_drewN (w.alloc (.cells #[.int .i64 tm, .int .i64 vt] 43)) q).size; have h2 := World.heap_drewN (w.alloc (.cells #[.int .i64 tm, .int .i64 vt] 43)) q; rw [h2]]; simp
    rw [hz] at r
    exact row_ints r
  have NW : Hid (∀ q, Calls Tryz.prog 15 #[.int .i64 me, .int .i64 tm, .int .i64 vt, .agg #[.int .i64 3, .int .i64 2, .slice (some ⟨w.heap.size + 1, 0, none⟩) 2 2, .string ⟨#[]⟩], .slice ad es.length cap, .int .i64 7] (((w.alloc (.cells #[.int .i64 tm, .int .i64 vt] 43)).drewN q).alloc (.cells #[.int .i64 0, .int .i64 2] 3)) fun e w' => e = .returned (.tuple #[.pointer none, .int .i64 1]) ∧ Below (((w.alloc (.cells #[.int .i64 tm, .int .i64 vt] 43)).drewN q).alloc (.cells #[.int .i64 0, .int .i64 2] 3)).heap.size (((w.alloc (.cells #[.int .i64 tm, .int .i64 vt] 43)).drewN q).alloc (.cells #[.int .i64 0, .int .i64 2] 3)) w') := fun q => nnew_bad me tm vt _ shN _ es 7 _ (IQ.out q) (hv.next (BQ.out q)) hz (by decide) (.inr (.inr (.inr (.inl ⟨by omega, by unfold ndOk; rw [decide_eq_false h5]; simp⟩))))
  have e0 : decide (me ≥ 0) = true := decide_eq_true h0
  have f0 : decide (0 ≤ me) = true := decide_eq_true h0
  have e1 : decide (me < 7) = true := decide_eq_true h1
  have f1 : decide (me < 7) = true := decide_eq_true h1
  have e2 : decide (tm ≥ 2) = true := decide_eq_true h2
  have f2 : decide (2 ≤ tm) = true := decide_eq_true h2
  have e3 : decide (tm ≤ 1099511627776) = true := decide_eq_true h3
  have f3 : decide (tm ≤ 1099511627776) = true := decide_eq_true h3
  have e4 : decide (vt ≥ -1) = true := decide_eq_true h4
  have f4 : decide (-1 ≤ vt) = true := decide_eq_true h4
  have e5 : decide (vt < 7) = false := decide_eq_false h5
  have f5 : decide (vt < 7) = false := decide_eq_false h5
  clear hz hy h0 h1 h2 h3 h4 h5
  have y0 := R0.out.cellAt (o := 0) rfl
  have y1 := R0.out.cellAt (o := 1) rfl
  clear hv hcl
  go_enter Tryz.func5, Tryz.ntmps5
  go_wp2
  go_quiet (fail)
  have NW2 := hid (NW.out nq)
  have BQ2 := hid (BQ.out nq)
  clear NW BQ IQ R0 y0 y1
  go_wp2_with fail
  refine NW2.out.mono ?_
  rintro e w2 ⟨rfl, b2⟩
  have B2 := hid (below_on BQ2.out b2)
  clear NW2 b2 BQ2
  go_wp2
  go_loopg [11, 12, 13] es.length (fun gk o l i wr => ∃ (k : Nat) (ok : Bool) (la : Int), k ≤ es.length ∧ gk = es.length - k ∧ o = .bool ok ∧ l = .int .i64 la ∧ i = .int .i64 (k : Int) ∧ Hid (ok = false) ∧ Hid (Below w.heap.size w wr))
  case atStart => exact ⟨0, false, 2, Nat.zero_le _, rfl, rfl, rfl, rfl, rfl, B2⟩
  case round =>
    clear B2 e0 f0 e1 f1 e2 f2 e3 f3 e4 f4 e5 f5
    obtain ⟨k, ok, la, hk, hgk, rfl, rfl, rfl, HI, HB⟩ := hrel
    have hok := HI.out
    subst hok
    by_cases hlt : k < es.length
    · have hlb := HZ.out
      have hk1 : (k : Int) < (es.length : Int) := by omega
      have hk0 : (0 : Int) ≤ (k : Int) := by omega
      have hwk : wrap64 ((k : Int) + 1) = ((k + 1 : Nat) : Int) := by rw [IntWalk.wrap64_in _ (by omega)]; omega
      obtain ⟨b, off, hadr, hb, c0, c1, c2⟩ := HC.out k hlt
      have d0 := (HB.out.cell (p := ⟨b, off + k * 3, none⟩) hb).trans c0
      have d1 := (HB.out.cell (p := ⟨b, off + k * 3 + 1, none⟩) hb).trans c1
      have d2 := (HB.out.cell (p := ⟨b, off + k * 3 + 2, none⟩) hb).trans c2
      have HLT := hid hlt
      have HGK := hid hgk
      have HM5 : Hid (es.length - (k + 1) < es.length - k) := by show _ < _; omega
      clear c0 c1 c2 hb hlb hk hgk HC NI AW
      generalize es[k] = x at *
      obtain ⟨xt, kd, da⟩ := x
      simp only at *
      subst hadr
      clear hlt
      go_wp2
      go_roundg (es.length - (k + 1))
      case measure => rw [HGK.out]; exact HM5.out
      case rel => exact ⟨k + 1, false, xt, HLT.out, rfl, rfl, rfl, by first | rw [hwk] | rfl | simp, rfl, HB⟩
    · have hk9 : k = es.length := by omega
      have hdl : decide ((k : Int) < (es.length : Int)) = false := decide_eq_false (by omega)
      have hdl2 : decide (k < es.length) = false := decide_eq_false (by omega)
      clear HC HZ hlt hk hk9 hgk HI
      go_wp2_with fail
      refine (AW.out _).mono ?_
      rintro e w5 ⟨rfl, b5⟩
      have B5 := hid (below_on HB.out b5)
      clear AW b5 HB
      go_wp2_with fail
      refine (NI.out.pr _ _).mono ?_
      rintro e wz ⟨rfl, hz⟩
      subst hz
      go_wp2_with fail
      refine (NI.out.ch _ _).mono ?_
      rintro e wz ⟨rfl, hz⟩
      subst hz
      go_wp2_with fail
      refine (NI.out.rd _).mono ?_
      rintro e wz ⟨rfl, hz⟩
      subst hz
      go_wp2_with fail
      refine (NI.out.hd _).mono ?_
      rintro e wz ⟨rfl, hz⟩
      subst hz
      go_wp2_with fail
      refine (NI.out.tk _).mono ?_
      rintro e wt ⟨rfl, bt⟩
      have BT := hid (below_al (below_on B5.out bt) (.cells #[.int .i64 0, .int .i64 0, .slice none 0 0, .string ⟨#[]⟩] 49))
      clear bt B5
      go_wp2_with fail
      refine (NI.out.cp _ _ _).mono ?_
      rintro e wz ⟨rfl, hz⟩
      subst hz
      go_wp2_with fail
      refine (NI.out.ti _ _).mono ?_
      rintro e wz ⟨rfl, hz⟩
      subst hz
      go_wp2_with fail
      refine (NI.out.st _).mono ?_
      rintro e wu ⟨rfl, bu⟩
      have BU := hid (below_on BT.out bu)
      clear bu BT
      go_wp2_with fail
      refine (NI.out.ld _).mono ?_
      rintro e wz ⟨rfl, hz⟩
      subst hz
      go_wp2_with fail
      refine (NI.out.cm _).mono ?_
      rintro e wz ⟨rfl, hz⟩
      subst hz
      go_wp2_with fail
      refine (NI.out.su _ _ _).mono ?_
      rintro e wv ⟨rfl, bv⟩
      have BV := hid (below_on BU.out bv)
      clear bv BU
      go_wp2_with fail
      refine (NI.out.me _).mono ?_
      rintro e wz ⟨rfl, hz⟩
      subst hz
      go_wp2
      go_ret
      exact ⟨rfl, BV.out⟩
end Go.Proofs.YtlkidnfgodficaaGreat
namespace Go.Proofs.YtlkidnfgodficaaGreat
open Go.RowKit Go.Maps
set_option linter.unusedVariables false
set_option linter.unusedSimpArgs false

set_option maxRecDepth 100000 in
set_option maxHeartbeats 8000000 in
theorem raftNew_t (me tm vt : Int) (v : Value) (es : List En) (w : World) (hv : EntI w v es) (hz : es.length ≤ 4398046511104) (hy : ∀ x ∈ es, x.da.size ≤ 140737488355328) (h0 : 0 ≤ me) (h1 : me < 7) (h2 : 2 ≤ tm) (h3 : tm ≤ 1099511627776) (h4 : -1 ≤ vt) (h5 : vt < 7) (hm : mesOk 2 tm es = true) : Calls Tryz.prog 5 #[.int .i64 me, .agg #[.int .i64 tm, .int .i64 vt], v] w fun e w' => e = .returned (.bool true) ∧ Below w.heap.size w w' := by
  have NI := hid nils
  have AW := hid (fun W => awake10 W)
  obtain ⟨ad, cap, rfl, hcl⟩ := hv.form
  have HC := hid hcl
  have HZ := hid hz
  have R0 : Hid (RowIs (w.alloc (.cells #[.int .i64 tm, .int .i64 vt] 43)) w.heap.size [.int .i64 tm, .int .i64 vt] 43) := srow w _ _
  have BQ : Hid (∀ q, Below w.heap.size w (((w.alloc (.cells #[.int .i64 tm, .int .i64 vt] 43)).drewN q).alloc (.cells #[.int .i64 0, .int .i64 2] 3))) := fun q => below_al (below_drewN (below_al (Below.refl _ _) _) q) _
  have IQ : Hid (∀ q, IntsI (((w.alloc (.cells #[.int .i64 tm, .int .i64 vt] 43)).drewN q).alloc (.cells #[.int .i64 0, .int .i64 2] 3)) (.slice (some ⟨w.heap.size + 1, 0, none⟩) 2 2) [0, 2]) := fun q => by
    have r := srow ((w.alloc (.cells #[.int .i64 tm, .int .i64 vt] 43)).drewN q) (isC [0, 2]) 3
    have hz : ((w.alloc (.cells #[.int .i64 tm, .int .i64 vt] 43)).drewN q).heap.size = w.heap.size + 1 := by rw [show ((w.alloc (.cells #[.int .i64 tm, .int .i64 vt] 43)).drewN q).heap.size = (w.alloc (.cells #[.int .i64 tm, .int .i64 vt] 43)).heap.size from by have := (keep_drewN (w.alloc (.cells #[.int .i64 tm, .int .i64 vt] 43)) q).size; have h2 := World.heap_drewN (w.alloc (.cells #[.int .i64 tm, .int .i64 vt] 43)) q; rw [h2]]; simp
    rw [hz] at r
    exact row_ints r
  have NW : Hid (∀ q, Calls Tryz.prog 15 #[.int .i64 me, .int .i64 tm, .int .i64 vt, .agg #[.int .i64 3, .int .i64 2, .slice (some ⟨w.heap.size + 1, 0, none⟩) 2 2, .string ⟨#[]⟩], .slice ad es.length cap, .int .i64 7] (((w.alloc (.cells #[.int .i64 tm, .int .i64 vt] 43)).drewN q).alloc (.cells #[.int .i64 0, .int .i64 2] 3)) fun e w' => ∃ nb bm lg ga, e = .returned (.tuple #[.pointer (some ⟨nb, 0, none⟩), .int .i64 0]) ∧ NdI w' (((w.alloc (.cells #[.int .i64 tm, .int .i64 vt] 43)).drewN q).alloc (.cells #[.int .i64 0, .int .i64 2] 3)).heap.size nb (ndWa (ndN me tm vt shN 7 bm lg ga)) [0, 2] es ∧ Below (((w.alloc (.cells #[.int .i64 tm, .int .i64 vt] 43)).drewN q).alloc (.cells #[.int .i64 0, .int .i64 2] 3)).heap.size (((w.alloc (.cells #[.int .i64 tm, .int .i64 vt] 43)).drewN q).alloc (.cells #[.int .i64 0, .int .i64 2] 3)) w') := fun q => nnew_ok me tm vt _ shN _ es 7 _ (IQ.out q) (hv.next (BQ.out q)) hz hy (by unfold ndOk; rw [decide_eq_true h0, decide_eq_true h1]; rfl) h2 h3 (by
    by_cases e : vt = -1
    · exact .inl e
    · exact .inr (by unfold ndOk; rw [decide_eq_true (show 0 ≤ vt by omega), decide_eq_true h5]; rfl)) (by decide) hm
  have e0 : decide (me ≥ 0) = true := decide_eq_true h0
  have f0 : decide (0 ≤ me) = true := decide_eq_true h0
  have e1 : decide (me < 7) = true := decide_eq_true h1
  have f1 : decide (me < 7) = true := decide_eq_true h1
  have e2 : decide (tm ≥ 2) = true := decide_eq_true h2
  have f2 : decide (2 ≤ tm) = true := decide_eq_true h2
  have e3 : decide (tm ≤ 1099511627776) = true := decide_eq_true h3
  have f3 : decide (tm ≤ 1099511627776) = true := decide_eq_true h3
  have e4 : decide (vt ≥ -1) = true := decide_eq_true h4
  have f4 : decide (-1 ≤ vt) = true := decide_eq_true h4
  have e5 : decide (vt < 7) = true := decide_eq_true h5
  have f5 : decide (vt < 7) = true := decide_eq_true h5
  have HMM := hid hm
  have HY := hid hy
  clear hm
  clear hz hy h0 h1 h2 h3 h4 h5
  have y0 := R0.out.cellAt (o := 0) rfl
  have y1 := R0.out.cellAt (o := 1) rfl
  clear hv hcl
  go_enter Tryz.func5, Tryz.ntmps5
  go_wp2
  go_quiet (fail)
  have NW2 := hid (NW.out nq)
  have BQ2 := hid (BQ.out nq)
  clear NW BQ IQ R0 y0 y1
  go_wp2_with fail
  refine NW2.out.mono ?_
  rintro e w2 ⟨nb, bm, lg, ga, rfl, hn, b2⟩
  have B2 := hid (below_on BQ2.out b2)
  have hne : ([0, 2] : List Int) ≠ [] := by simp
  obtain ⟨B, hB⟩ : ∃ B, B = (((w.alloc (.cells #[.int .i64 tm, .int .i64 vt] 43)).drewN nq).alloc (.cells #[.int .i64 0, .int .i64 2] 3)).heap.size := ⟨_, rfl⟩
  rw [← hB] at hn
  have NDX : Hid (∀ W, Below w2.heap.size w2 W → NdI W B nb (ndWa (ndN me tm vt shN 7 bm lg ga)) [0, 2] es) := fun W b => hn.next b
  have B22 : Hid (∀ {W}, Below w2.heap.size w2 W → Below w.heap.size w W) := fun b => below_on B2.out b
  have BL : Hid (∀ W, Below w2.heap.size w2 W → Calls Tryz.prog 16 #[.pointer (some ⟨nb, 0, none⟩)] W fun e w' => e = .returned (.tuple #[.int .i64 tm, .int .i64 vt]) ∧ Below W.heap.size W w') := fun W b => nhard_any (NDX.out W b) hne
  have LA : Hid (∀ W, Below w2.heap.size w2 W → Calls Tryz.prog 17 #[.pointer (some ⟨nb, 0, none⟩)] W fun e w' => e = .returned (.tuple #[.int .i64 (3 + es.length), .int .i64 (ltT 2 es)]) ∧ Below W.heap.size W w') := fun W b => nlast_any (NDX.out W b) hne (by have := HZ.out; omega) (by show (0 : Int) ≤ 3; omega) (by show (3 : Int) ≤ 1099511627776; omega)
  have CM : Hid (∀ W, Below w2.heap.size w2 W → Calls Tryz.prog 18 #[.pointer (some ⟨nb, 0, none⟩)] W fun e w' => e = .returned (.int .i64 3) ∧ w' = W) := fun W b => ncommit_any (NDX.out W b) hne
  have RO : Hid (∀ W, Below w2.heap.size w2 W → Calls Tryz.prog 19 #[.pointer (some ⟨nb, 0, none⟩)] W fun e w' => e = .returned (.int .i64 0) ∧ w' = W) := fun W b => nrole_any (NDX.out W b) hne
  have LE : Hid (∀ W, Below w2.heap.size w2 W → Calls Tryz.prog 20 #[.pointer (some ⟨nb, 0, none⟩)] W fun e w' => e = .returned (.int .i64 (-1)) ∧ w' = W) := fun W b => nleader_any (NDX.out W b) hne
  have LG : Hid (∀ W, Below w2.heap.size w2 W → Calls Tryz.prog 21 #[.pointer (some ⟨nb, 0, none⟩)] W fun e w' => ∃ ad cap, e = .returned (.slice ad es.length cap) ∧ Below W.heap.size W w') := fun W b => nlog_any (NDX.out W b) hne (by decide) (by show (0 : Nat) ≤ _; omega) HZ.out HY.out (by show (0 : Int) ≤ 3; omega) (by show (3 : Int) ≤ 1099511627776; omega)
  have CP : Hid (∀ s W, Below w2.heap.size w2 W → Calls Tryz.prog 22 #[.pointer (some ⟨nb, 0, none⟩), .int .i64 4, .string s] W fun e w' => e = .returned (.int .i64 1) ∧ w' = W) := fun s W b => ncompact_no (NDX.out W b) hne 4 (by show (3 : Int) < 4; omega) (by show (3 : Int) < 4; omega) s
  have PR : Hid (∀ s W, Below w2.heap.size w2 W → Calls Tryz.prog 23 #[.pointer (some ⟨nb, 0, none⟩), .string s] W fun e w' => e = .returned (.tuple #[.int .i64 0, .slice none 0 0, .int .i64 80]) ∧ w' = W) := fun s W b => npropose_no (NDX.out W b) hne (by show (0 : Int) ≠ 2; omega) s
  have CH : Hid (∀ v W, Below w2.heap.size w2 W → Calls Tryz.prog 24 #[.pointer (some ⟨nb, 0, none⟩), v] W fun e w' => e = .returned (.tuple #[.int .i64 0, .slice none 0 0, .int .i64 80]) ∧ w' = W) := fun v W b => nchange_no (NDX.out W b) hne (by show (0 : Int) ≠ 2; omega) v
  have RE : Hid (∀ W, Below w2.heap.size w2 W → Calls Tryz.prog 25 #[.pointer (some ⟨nb, 0, none⟩)] W fun e w' => e = .returned (.tuple #[.int .i64 0, .int .i64 0, .slice none 0 0, .int .i64 80]) ∧ w' = W) := fun W b => nread_no (NDX.out W b) hne (by show (0 : Int) ≠ 2; omega)
  have SU : Hid (∀ a W, Below w2.heap.size w2 W → Calls Tryz.prog 26 #[.pointer (some ⟨nb, 0, none⟩), .int .i64 a, .int .i64 0] W fun e w' => e = .returned (.bool false) ∧ Below W.heap.size W w') := fun a W b => nsure_no (NDX.out W b) hne (by show (0 : Int) ≠ 2; omega) a 0
  have C2 := hid (Below.refl w2.heap.size w2)
  clear NW2 b2 BQ2 hn hB NDX
  go_wp2
  go_loopg [11, 12, 13] es.length (fun gk o l i wr => ∃ (k : Nat) (ok : Bool) (la : Int), k ≤ es.length ∧ gk = es.length - k ∧ o = .bool ok ∧ l = .int .i64 la ∧ i = .int .i64 (k : Int) ∧ Hid (ok = mesOk 2 tm (es.take k) ∧ la = ltT 2 (es.take k)) ∧ Hid (Below w.heap.size w wr ∧ wr = w2))
  case atStart => exact ⟨0, true, 2, Nat.zero_le _, rfl, rfl, rfl, rfl, ⟨rfl, rfl⟩, B2.out, rfl⟩
  case round =>
    clear e0 f0 e1 f1 e2 f2 e3 f3 e4 f4 e5 f5
    obtain ⟨k, ok, la, hk, hgk, rfl, rfl, rfl, HI, HB2⟩ := hrel
    have HB := hid HB2.out.1
    by_cases hlt : k < es.length
    · have hlb := HZ.out
      have hk1 : (k : Int) < (es.length : Int) := by omega
      have hk0 : (0 : Int) ≤ (k : Int) := by omega
      have hwk : wrap64 ((k : Int) + 1) = ((k + 1 : Nat) : Int) := by rw [IntWalk.wrap64_in _ (by omega)]; omega
      obtain ⟨b, off, hadr, hb, c0, c1, c2⟩ := HC.out k hlt
      have d0 := (HB.out.cell (p := ⟨b, off + k * 3, none⟩) hb).trans c0
      have d1 := (HB.out.cell (p := ⟨b, off + k * 3 + 1, none⟩) hb).trans c1
      have d2 := (HB.out.cell (p := ⟨b, off + k * 3 + 2, none⟩) hb).trans c2
      have HLT := hid hlt
      have HGK := hid hgk
      have HM5 : Hid (es.length - (k + 1) < es.length - k) := by show _ < _; omega
      have HT : Hid (mesOk 2 tm (es.take (k + 1)) = (ok && meOk la tm es[k])) := by have e := mesOk_take tm es k hlt; rw [← HI.out.1, ← HI.out.2] at e; exact e
      have HU : Hid (ltT 2 (es.take (k + 1)) = es[k].tm) := ltT_take es k hlt
      have HME : Hid (meOk la tm es[k] = (decide (la ≤ es[k].tm) && (decide (es[k].tm ≤ tm) && (decide (0 ≤ es[k].kd) && (decide (es[k].kd ≤ 255) && decide (es[k].da.size ≤ 65536)))))) := rfl
      clear c0 c1 c2 hb hlb hk hgk HC HI NI AW HMM HY B22 BL LA CM RO LE LG CP PR CH RE SU C2 B2
      generalize es[k] = x at *
      obtain ⟨xt, kd, da⟩ := x
      simp only at *
      subst hadr
      clear hlt
      generalize meOk la tm ⟨xt, kd, da⟩ = M at *
      cases ok
      case false =>
        have HN : Hid (false = mesOk 2 tm (es.take (k + 1)) ∧ xt = ltT 2 (es.take (k + 1))) := ⟨by rw [HT.out]; rfl, HU.out.symm⟩
        clear HT HU HME
        go_wp2
        go_roundg (es.length - (k + 1))
        case measure => rw [HGK.out]; exact HM5.out
        case rel => exact ⟨k + 1, false, xt, HLT.out, rfl, rfl, rfl, by first | rw [hwk] | rfl | simp, HN, HB2⟩
      case true =>
      by_cases g0 : la ≤ xt
      case neg =>
        have tg0 : decide (xt ≥ la) = false := decide_eq_false (by omega)
        have ug0 : decide (la ≤ xt) = false := decide_eq_false (by omega)
        have hM : M = false := by rw [HME.out, ug0]; simp
        have HN : Hid (false = mesOk 2 tm (es.take (k + 1)) ∧ xt = ltT 2 (es.take (k + 1))) := ⟨by rw [HT.out, hM]; rfl, HU.out.symm⟩
        clear HT HU HME hM g0
        go_wp2
        go_roundg (es.length - (k + 1))
        case measure => rw [HGK.out]; exact HM5.out
        case rel => exact ⟨k + 1, false, xt, HLT.out, rfl, rfl, rfl, by first | rw [hwk] | rfl | simp, HN, HB2⟩
      case pos =>
      have tg0 : decide (xt ≥ la) = true := decide_eq_true (by omega)
      have ug0 : decide (la ≤ xt) = true := decide_eq_true (by omega)
      by_cases g1 : xt ≤ tm
      case neg =>
        have tg1 : decide (xt ≤ tm) = false := decide_eq_false (by omega)
        have ug1 : decide (xt ≤ tm) = false := decide_eq_false (by omega)
        have hM : M = false := by rw [HME.out, decide_eq_true (show la ≤ xt by omega), ug1]; simp
        have HN : Hid (false = mesOk 2 tm (es.take (k + 1)) ∧ xt = ltT 2 (es.take (k + 1))) := ⟨by rw [HT.out, hM]; rfl, HU.out.symm⟩
        clear HT HU HME hM g0 g1
        go_wp2
        go_roundg (es.length - (k + 1))
        case measure => rw [HGK.out]; exact HM5.out
        case rel => exact ⟨k + 1, false, xt, HLT.out, rfl, rfl, rfl, by first | rw [hwk] | rfl | simp, HN, HB2⟩
      case pos =>
      have tg1 : decide (xt ≤ tm) = true := decide_eq_true (by omega)
      have ug1 : decide (xt ≤ tm) = true := decide_eq_true (by omega)
      by_cases g2 : 0 ≤ kd
      case neg =>
        have tg2 : decide (kd ≥ 0) = false := decide_eq_false (by omega)
        have ug2 : decide (0 ≤ kd) = false := decide_eq_false (by omega)
        have hM : M = false := by rw [HME.out, decide_eq_true (show la ≤ xt by omega), decide_eq_true (show xt ≤ tm by omega), ug2]; simp
        have HN : Hid (false = mesOk 2 tm (es.take (k + 1)) ∧ xt = ltT 2 (es.take (k + 1))) := ⟨by rw [HT.out, hM]; rfl, HU.out.symm⟩
        clear HT HU HME hM g0 g1 g2
        go_wp2
        go_roundg (es.length - (k + 1))
        case measure => rw [HGK.out]; exact HM5.out
        case rel => exact ⟨k + 1, false, xt, HLT.out, rfl, rfl, rfl, by first | rw [hwk] | rfl | simp, HN, HB2⟩
      case pos =>
      have tg2 : decide (kd ≥ 0) = true := decide_eq_true (by omega)
      have ug2 : decide (0 ≤ kd) = true := decide_eq_true (by omega)
      by_cases g3 : kd ≤ 255
      case neg =>
        have tg3 : decide (kd ≤ 255) = false := decide_eq_false (by omega)
        have ug3 : decide (kd ≤ 255) = false := decide_eq_false (by omega)
        have hM : M = false := by rw [HME.out, decide_eq_true (show la ≤ xt by omega), decide_eq_true (show xt ≤ tm by omega), decide_eq_true (show 0 ≤ kd by omega), ug3]; simp
        have HN : Hid (false = mesOk 2 tm (es.take (k + 1)) ∧ xt = ltT 2 (es.take (k + 1))) := ⟨by rw [HT.out, hM]; rfl, HU.out.symm⟩
        clear HT HU HME hM g0 g1 g2 g3
        go_wp2
        go_roundg (es.length - (k + 1))
        case measure => rw [HGK.out]; exact HM5.out
        case rel => exact ⟨k + 1, false, xt, HLT.out, rfl, rfl, rfl, by first | rw [hwk] | rfl | simp, HN, HB2⟩
      case pos =>
      have tg3 : decide (kd ≤ 255) = true := decide_eq_true (by omega)
      have ug3 : decide (kd ≤ 255) = true := decide_eq_true (by omega)
      by_cases g4 : da.size ≤ 65536
      case neg =>
        have tg4 : decide ((da.size : Int) ≤ 65536) = false := decide_eq_false (by omega)
        have ug4 : decide (da.size ≤ 65536) = false := decide_eq_false (by omega)
        have hM : M = false := by rw [HME.out, decide_eq_true (show la ≤ xt by omega), decide_eq_true (show xt ≤ tm by omega), decide_eq_true (show 0 ≤ kd by omega), decide_eq_true (show kd ≤ 255 by omega), ug4]; simp
        have HN : Hid (false = mesOk 2 tm (es.take (k + 1)) ∧ xt = ltT 2 (es.take (k + 1))) := ⟨by rw [HT.out, hM]; rfl, HU.out.symm⟩
        clear HT HU HME hM g0 g1 g2 g3 g4
        go_wp2
        go_roundg (es.length - (k + 1))
        case measure => rw [HGK.out]; exact HM5.out
        case rel => exact ⟨k + 1, false, xt, HLT.out, rfl, rfl, rfl, by first | rw [hwk] | rfl | simp, HN, HB2⟩
      case pos =>
      have tg4 : decide ((da.size : Int) ≤ 65536) = true := decide_eq_true (by omega)
      have ug4 : decide (da.size ≤ 65536) = true := decide_eq_true (by omega)
      have hM : M = true := by rw [HME.out, ug0, ug1, ug2, ug3, ug4]; rfl
      have HN : Hid (true = mesOk 2 tm (es.take (k + 1)) ∧ xt = ltT 2 (es.take (k + 1))) := ⟨by rw [HT.out, hM]; rfl, HU.out.symm⟩
      clear HT HU HME hM g0 g1 g2 g3 g4
      go_wp2
      go_roundg (es.length - (k + 1))
      case measure => rw [HGK.out]; exact HM5.out
      case rel => exact ⟨k + 1, true, xt, HLT.out, rfl, rfl, rfl, by first | rw [hwk] | rfl | simp, HN, HB2⟩
    · have hk9 : k = es.length := by omega
      have hdl : decide ((k : Int) < (es.length : Int)) = false := decide_eq_false (by omega)
      have hdl2 : decide (k < es.length) = false := decide_eq_false (by omega)
      have hok := HI.out.1
      have hla := HI.out.2
      rw [hk9, List.take_length, HMM.out] at hok
      rw [hk9, List.take_length] at hla
      subst hok
      have hw2 := HB2.out.2
      subst hw2
      have hlb := HZ.out
      have q1 : wrap64 (3 + (es.length : Int)) = 3 + (es.length : Int) := IntWalk.wrap64_in _ (by omega)
      rw [← hla] at LA
      clear HC HZ hlt hk hk9 hgk HI HMM HY HB2 HB hla hlb B2
      go_wp2_with fail
      refine (AW.out _).mono ?_
      rintro e w5 ⟨rfl, b5⟩
      have C5 := hid (below_on C2.out b5)
      clear AW b5 C2
      go_wp2_with fail
      refine (BL.out _ C5.out).mono ?_
      rintro e w6 ⟨rfl, bq⟩
      have C6 := hid (below_on C5.out bq)
      clear bq BL C5
      go_wp2_with fail
      refine (LA.out _ C6.out).mono ?_
      rintro e w7 ⟨rfl, bq⟩
      have C7 := hid (below_on C6.out bq)
      clear bq LA C6
      go_wp2_with fail
      refine (CM.out _ C7.out).mono ?_
      rintro e wz ⟨rfl, hz⟩
      subst hz
      clear CM
      go_wp2_with fail
      refine (RO.out _ C7.out).mono ?_
      rintro e wz ⟨rfl, hz⟩
      subst hz
      clear RO
      go_wp2_with fail
      refine (LE.out _ C7.out).mono ?_
      rintro e wz ⟨rfl, hz⟩
      subst hz
      clear LE
      go_wp2_with fail
      refine (LG.out _ C7.out).mono ?_
      rintro e w8 ⟨adl, capl, rfl, bq⟩
      have C8 := hid (below_on C7.out bq)
      clear bq LG C7
      go_wp2_with fail
      refine (CP.out _ _ C8.out).mono ?_
      rintro e wz ⟨rfl, hz⟩
      subst hz
      clear CP
      go_wp2_with fail
      refine (PR.out _ _ C8.out).mono ?_
      rintro e wz ⟨rfl, hz⟩
      subst hz
      clear PR
      go_wp2_with fail
      have C9 := hid (below_al C8.out (.cells #[.int .i64 0] 3))
      clear C8
      refine (CH.out _ _ C9.out).mono ?_
      rintro e wz ⟨rfl, hz⟩
      subst hz
      clear CH
      go_wp2_with fail
      refine (RE.out _ C9.out).mono ?_
      rintro e wz ⟨rfl, hz⟩
      subst hz
      clear RE
      go_wp2_with fail
      refine (SU.out _ _ C9.out).mono ?_
      rintro e w10 ⟨rfl, bq⟩
      have C10 := hid (below_on C9.out bq)
      clear bq SU C9
      have BX := hid (B22.out C10.out)
      clear B22 C10
      go_wp2_with fail
      refine (NI.out.pr _ _).mono ?_
      rintro e wz ⟨rfl, hz⟩
      subst hz
      go_wp2_with fail
      refine (NI.out.ch _ _).mono ?_
      rintro e wz ⟨rfl, hz⟩
      subst hz
      go_wp2_with fail
      refine (NI.out.rd _).mono ?_
      rintro e wz ⟨rfl, hz⟩
      subst hz
      go_wp2_with fail
      refine (NI.out.hd _).mono ?_
      rintro e wz ⟨rfl, hz⟩
      subst hz
      go_wp2_with fail
      refine (NI.out.tk _).mono ?_
      rintro e wt ⟨rfl, bt⟩
      have BT := hid (below_al (below_on BX.out bt) (.cells #[.int .i64 0, .int .i64 0, .slice none 0 0, .string ⟨#[]⟩] 49))
      clear bt BX
      go_wp2_with fail
      refine (NI.out.cp _ _ _).mono ?_
      rintro e wz ⟨rfl, hz⟩
      subst hz
      go_wp2_with fail
      refine (NI.out.ti _ _).mono ?_
      rintro e wz ⟨rfl, hz⟩
      subst hz
      go_wp2_with fail
      refine (NI.out.st _).mono ?_
      rintro e wu ⟨rfl, bu⟩
      have BU := hid (below_on BT.out bu)
      clear bu BT
      go_wp2_with fail
      refine (NI.out.ld _).mono ?_
      rintro e wz ⟨rfl, hz⟩
      subst hz
      go_wp2_with fail
      refine (NI.out.cm _).mono ?_
      rintro e wz ⟨rfl, hz⟩
      subst hz
      go_wp2_with fail
      refine (NI.out.su _ _ _).mono ?_
      rintro e wv ⟨rfl, bv⟩
      have BV := hid (below_on BU.out bv)
      clear bv BU
      go_wp2_with fail
      refine (NI.out.me _).mono ?_
      rintro e wz ⟨rfl, hz⟩
      subst hz
      go_wp2
      go_ret
      exact ⟨rfl, BV.out⟩
end Go.Proofs.YtlkidnfgodficaaGreat
namespace Go.Proofs.YtlkidnfgodficaaGreat
open Go.RowKit Go.Maps
set_option linter.unusedVariables false
set_option linter.unusedSimpArgs false

set_option maxRecDepth 100000 in
set_option maxHeartbeats 8000000 in
theorem raftNew_f (me tm vt : Int) (v : Value) (es : List En) (w : World) (hv : EntI w v es) (hz : es.length ≤ 4398046511104) (hy : ∀ x ∈ es, x.da.size ≤ 140737488355328) (h0 : 0 ≤ me) (h1 : me < 7) (h2 : 2 ≤ tm) (h3 : tm ≤ 1099511627776) (h4 : -1 ≤ vt) (h5 : vt < 7) (hm : mesOk 2 tm es = false) : Calls Tryz.prog 5 #[.int .i64 me, .agg #[.int .i64 tm, .int .i64 vt], v] w fun e w' => e = .returned (.bool true) ∧ Below w.heap.size w w' := by
  have NI := hid nils
  have AW := hid (fun W => awake10 W)
  obtain ⟨ad, cap, rfl, hcl⟩ := hv.form
  have HC := hid hcl
  have HZ := hid hz
  have R0 : Hid (RowIs (w.alloc (.cells #[.int .i64 tm, .int .i64 vt] 43)) w.heap.size [.int .i64 tm, .int .i64 vt] 43) := srow w _ _
  have BQ : Hid (∀ q, Below w.heap.size w (((w.alloc (.cells #[.int .i64 tm, .int .i64 vt] 43)).drewN q).alloc (.cells #[.int .i64 0, .int .i64 2] 3))) := fun q => below_al (below_drewN (below_al (Below.refl _ _) _) q) _
  have IQ : Hid (∀ q, IntsI (((w.alloc (.cells #[.int .i64 tm, .int .i64 vt] 43)).drewN q).alloc (.cells #[.int .i64 0, .int .i64 2] 3)) (.slice (some ⟨w.heap.size + 1, 0, none⟩) 2 2) [0, 2]) := fun q => by
    have r := srow ((w.alloc (.cells #[.int .i64 tm, .int .i64 vt] 43)).drewN q) (isC [0, 2]) 3
    have hz : ((w.alloc (.cells #[.int .i64 tm, .int .i64 vt] 43)).drewN q).heap.size = w.heap.size + 1 := by rw [show ((w.alloc (.cells #[.int .i64 tm, .int .i64 vt] 43)).drewN q).heap.size = (w.alloc (.cells #[.int .i64 tm, .int .i64 vt] 43)).heap.size from by have := (keep_drewN (w.alloc (.cells #[.int .i64 tm, .int .i64 vt] 43)) q).size; have h2 := World.heap_drewN (w.alloc (.cells #[.int .i64 tm, .int .i64 vt] 43)) q; rw [h2]]; simp
    rw [hz] at r
    exact row_ints r
  have NW : Hid (∀ q, Calls Tryz.prog 15 #[.int .i64 me, .int .i64 tm, .int .i64 vt, .agg #[.int .i64 3, .int .i64 2, .slice (some ⟨w.heap.size + 1, 0, none⟩) 2 2, .string ⟨#[]⟩], .slice ad es.length cap, .int .i64 7] (((w.alloc (.cells #[.int .i64 tm, .int .i64 vt] 43)).drewN q).alloc (.cells #[.int .i64 0, .int .i64 2] 3)) fun e w' => e = .returned (.tuple #[.pointer none, .int .i64 1]) ∧ Below (((w.alloc (.cells #[.int .i64 tm, .int .i64 vt] 43)).drewN q).alloc (.cells #[.int .i64 0, .int .i64 2] 3)).heap.size (((w.alloc (.cells #[.int .i64 tm, .int .i64 vt] 43)).drewN q).alloc (.cells #[.int .i64 0, .int .i64 2] 3)) w') := fun q => nnew_bad me tm vt _ shN _ es 7 _ (IQ.out q) (hv.next (BQ.out q)) hz (by decide) (.inr (.inr (.inr (.inr hm))))
  have e0 : decide (me ≥ 0) = true := decide_eq_true h0
  have f0 : decide (0 ≤ me) = true := decide_eq_true h0
  have e1 : decide (me < 7) = true := decide_eq_true h1
  have f1 : decide (me < 7) = true := decide_eq_true h1
  have e2 : decide (tm ≥ 2) = true := decide_eq_true h2
  have f2 : decide (2 ≤ tm) = true := decide_eq_true h2
  have e3 : decide (tm ≤ 1099511627776) = true := decide_eq_true h3
  have f3 : decide (tm ≤ 1099511627776) = true := decide_eq_true h3
  have e4 : decide (vt ≥ -1) = true := decide_eq_true h4
  have f4 : decide (-1 ≤ vt) = true := decide_eq_true h4
  have e5 : decide (vt < 7) = true := decide_eq_true h5
  have f5 : decide (vt < 7) = true := decide_eq_true h5
  have HMM := hid hm
  clear hm
  clear hz hy h0 h1 h2 h3 h4 h5
  have y0 := R0.out.cellAt (o := 0) rfl
  have y1 := R0.out.cellAt (o := 1) rfl
  clear hv hcl
  go_enter Tryz.func5, Tryz.ntmps5
  go_wp2
  go_quiet (fail)
  have NW2 := hid (NW.out nq)
  have BQ2 := hid (BQ.out nq)
  clear NW BQ IQ R0 y0 y1
  go_wp2_with fail
  refine NW2.out.mono ?_
  rintro e w2 ⟨rfl, b2⟩
  have B2 := hid (below_on BQ2.out b2)
  clear NW2 b2 BQ2
  go_wp2
  go_loopg [11, 12, 13] es.length (fun gk o l i wr => ∃ (k : Nat) (ok : Bool) (la : Int), k ≤ es.length ∧ gk = es.length - k ∧ o = .bool ok ∧ l = .int .i64 la ∧ i = .int .i64 (k : Int) ∧ Hid (ok = mesOk 2 tm (es.take k) ∧ la = ltT 2 (es.take k)) ∧ Hid (Below w.heap.size w wr))
  case atStart => exact ⟨0, true, 2, Nat.zero_le _, rfl, rfl, rfl, rfl, ⟨rfl, rfl⟩, B2⟩
  case round =>
    clear B2 e0 f0 e1 f1 e2 f2 e3 f3 e4 f4 e5 f5
    obtain ⟨k, ok, la, hk, hgk, rfl, rfl, rfl, HI, HB⟩ := hrel
    by_cases hlt : k < es.length
    · have hlb := HZ.out
      have hk1 : (k : Int) < (es.length : Int) := by omega
      have hk0 : (0 : Int) ≤ (k : Int) := by omega
      have hwk : wrap64 ((k : Int) + 1) = ((k + 1 : Nat) : Int) := by rw [IntWalk.wrap64_in _ (by omega)]; omega
      obtain ⟨b, off, hadr, hb, c0, c1, c2⟩ := HC.out k hlt
      have d0 := (HB.out.cell (p := ⟨b, off + k * 3, none⟩) hb).trans c0
      have d1 := (HB.out.cell (p := ⟨b, off + k * 3 + 1, none⟩) hb).trans c1
      have d2 := (HB.out.cell (p := ⟨b, off + k * 3 + 2, none⟩) hb).trans c2
      have HLT := hid hlt
      have HGK := hid hgk
      have HM5 : Hid (es.length - (k + 1) < es.length - k) := by show _ < _; omega
      have HT : Hid (mesOk 2 tm (es.take (k + 1)) = (ok && meOk la tm es[k])) := by have e := mesOk_take tm es k hlt; rw [← HI.out.1, ← HI.out.2] at e; exact e
      have HU : Hid (ltT 2 (es.take (k + 1)) = es[k].tm) := ltT_take es k hlt
      have HME : Hid (meOk la tm es[k] = (decide (la ≤ es[k].tm) && (decide (es[k].tm ≤ tm) && (decide (0 ≤ es[k].kd) && (decide (es[k].kd ≤ 255) && decide (es[k].da.size ≤ 65536)))))) := rfl
      clear c0 c1 c2 hb hlb hk hgk HC HI NI AW HMM
      generalize es[k] = x at *
      obtain ⟨xt, kd, da⟩ := x
      simp only at *
      subst hadr
      clear hlt
      generalize meOk la tm ⟨xt, kd, da⟩ = M at *
      cases ok
      case false =>
        have HN : Hid (false = mesOk 2 tm (es.take (k + 1)) ∧ xt = ltT 2 (es.take (k + 1))) := ⟨by rw [HT.out]; rfl, HU.out.symm⟩
        clear HT HU HME
        go_wp2
        go_roundg (es.length - (k + 1))
        case measure => rw [HGK.out]; exact HM5.out
        case rel => exact ⟨k + 1, false, xt, HLT.out, rfl, rfl, rfl, by first | rw [hwk] | rfl | simp, HN, HB⟩
      case true =>
      by_cases g0 : la ≤ xt
      case neg =>
        have tg0 : decide (xt ≥ la) = false := decide_eq_false (by omega)
        have ug0 : decide (la ≤ xt) = false := decide_eq_false (by omega)
        have hM : M = false := by rw [HME.out, ug0]; simp
        have HN : Hid (false = mesOk 2 tm (es.take (k + 1)) ∧ xt = ltT 2 (es.take (k + 1))) := ⟨by rw [HT.out, hM]; rfl, HU.out.symm⟩
        clear HT HU HME hM g0
        go_wp2
        go_roundg (es.length - (k + 1))
        case measure => rw [HGK.out]; exact HM5.out
        case rel => exact ⟨k + 1, false, xt, HLT.out, rfl, rfl, rfl, by first | rw [hwk] | rfl | simp, HN, HB⟩
      case pos =>
      have tg0 : decide (xt ≥ la) = true := decide_eq_true (by omega)
      have ug0 : decide (la ≤ xt) = true := decide_eq_true (by omega)
      by_cases g1 : xt ≤ tm
      case neg =>
        have tg1 : decide (xt ≤ tm) = false := decide_eq_false (by omega)
        have ug1 : decide (xt ≤ tm) = false := decide_eq_false (by omega)
        have hM : M = false := by rw [HME.out, decide_eq_true (show la ≤ xt by omega), ug1]; simp
        have HN : Hid (false = mesOk 2 tm (es.take (k + 1)) ∧ xt = ltT 2 (es.take (k + 1))) := ⟨by rw [HT.out, hM]; rfl, HU.out.symm⟩
        clear HT HU HME hM g0 g1
        go_wp2
        go_roundg (es.length - (k + 1))
        case measure => rw [HGK.out]; exact HM5.out
        case rel => exact ⟨k + 1, false, xt, HLT.out, rfl, rfl, rfl, by first | rw [hwk] | rfl | simp, HN, HB⟩
      case pos =>
      have tg1 : decide (xt ≤ tm) = true := decide_eq_true (by omega)
      have ug1 : decide (xt ≤ tm) = true := decide_eq_true (by omega)
      by_cases g2 : 0 ≤ kd
      case neg =>
        have tg2 : decide (kd ≥ 0) = false := decide_eq_false (by omega)
        have ug2 : decide (0 ≤ kd) = false := decide_eq_false (by omega)
        have hM : M = false := by rw [HME.out, decide_eq_true (show la ≤ xt by omega), decide_eq_true (show xt ≤ tm by omega), ug2]; simp
        have HN : Hid (false = mesOk 2 tm (es.take (k + 1)) ∧ xt = ltT 2 (es.take (k + 1))) := ⟨by rw [HT.out, hM]; rfl, HU.out.symm⟩
        clear HT HU HME hM g0 g1 g2
        go_wp2
        go_roundg (es.length - (k + 1))
        case measure => rw [HGK.out]; exact HM5.out
        case rel => exact ⟨k + 1, false, xt, HLT.out, rfl, rfl, rfl, by first | rw [hwk] | rfl | simp, HN, HB⟩
      case pos =>
      have tg2 : decide (kd ≥ 0) = true := decide_eq_true (by omega)
      have ug2 : decide (0 ≤ kd) = true := decide_eq_true (by omega)
      by_cases g3 : kd ≤ 255
      case neg =>
        have tg3 : decide (kd ≤ 255) = false := decide_eq_false (by omega)
        have ug3 : decide (kd ≤ 255) = false := decide_eq_false (by omega)
        have hM : M = false := by rw [HME.out, decide_eq_true (show la ≤ xt by omega), decide_eq_true (show xt ≤ tm by omega), decide_eq_true (show 0 ≤ kd by omega), ug3]; simp
        have HN : Hid (false = mesOk 2 tm (es.take (k + 1)) ∧ xt = ltT 2 (es.take (k + 1))) := ⟨by rw [HT.out, hM]; rfl, HU.out.symm⟩
        clear HT HU HME hM g0 g1 g2 g3
        go_wp2
        go_roundg (es.length - (k + 1))
        case measure => rw [HGK.out]; exact HM5.out
        case rel => exact ⟨k + 1, false, xt, HLT.out, rfl, rfl, rfl, by first | rw [hwk] | rfl | simp, HN, HB⟩
      case pos =>
      have tg3 : decide (kd ≤ 255) = true := decide_eq_true (by omega)
      have ug3 : decide (kd ≤ 255) = true := decide_eq_true (by omega)
      by_cases g4 : da.size ≤ 65536
      case neg =>
        have tg4 : decide ((da.size : Int) ≤ 65536) = false := decide_eq_false (by omega)
        have ug4 : decide (da.size ≤ 65536) = false := decide_eq_false (by omega)
        have hM : M = false := by rw [HME.out, decide_eq_true (show la ≤ xt by omega), decide_eq_true (show xt ≤ tm by omega), decide_eq_true (show 0 ≤ kd by omega), decide_eq_true (show kd ≤ 255 by omega), ug4]; simp
        have HN : Hid (false = mesOk 2 tm (es.take (k + 1)) ∧ xt = ltT 2 (es.take (k + 1))) := ⟨by rw [HT.out, hM]; rfl, HU.out.symm⟩
        clear HT HU HME hM g0 g1 g2 g3 g4
        go_wp2
        go_roundg (es.length - (k + 1))
        case measure => rw [HGK.out]; exact HM5.out
        case rel => exact ⟨k + 1, false, xt, HLT.out, rfl, rfl, rfl, by first | rw [hwk] | rfl | simp, HN, HB⟩
      case pos =>
      have tg4 : decide ((da.size : Int) ≤ 65536) = true := decide_eq_true (by omega)
      have ug4 : decide (da.size ≤ 65536) = true := decide_eq_true (by omega)
      have hM : M = true := by rw [HME.out, ug0, ug1, ug2, ug3, ug4]; rfl
      have HN : Hid (true = mesOk 2 tm (es.take (k + 1)) ∧ xt = ltT 2 (es.take (k + 1))) := ⟨by rw [HT.out, hM]; rfl, HU.out.symm⟩
      clear HT HU HME hM g0 g1 g2 g3 g4
      go_wp2
      go_roundg (es.length - (k + 1))
      case measure => rw [HGK.out]; exact HM5.out
      case rel => exact ⟨k + 1, true, xt, HLT.out, rfl, rfl, rfl, by first | rw [hwk] | rfl | simp, HN, HB⟩
    · have hk9 : k = es.length := by omega
      have hdl : decide ((k : Int) < (es.length : Int)) = false := decide_eq_false (by omega)
      have hdl2 : decide (k < es.length) = false := decide_eq_false (by omega)
      have hok := HI.out.1
      rw [hk9, List.take_length, HMM.out] at hok
      subst hok
      clear HMM
      clear HC HZ hlt hk hk9 hgk HI
      go_wp2_with fail
      refine (AW.out _).mono ?_
      rintro e w5 ⟨rfl, b5⟩
      have B5 := hid (below_on HB.out b5)
      clear AW b5 HB
      go_wp2_with fail
      refine (NI.out.pr _ _).mono ?_
      rintro e wz ⟨rfl, hz⟩
      subst hz
      go_wp2_with fail
      refine (NI.out.ch _ _).mono ?_
      rintro e wz ⟨rfl, hz⟩
      subst hz
      go_wp2_with fail
      refine (NI.out.rd _).mono ?_
      rintro e wz ⟨rfl, hz⟩
      subst hz
      go_wp2_with fail
      refine (NI.out.hd _).mono ?_
      rintro e wz ⟨rfl, hz⟩
      subst hz
      go_wp2_with fail
      refine (NI.out.tk _).mono ?_
      rintro e wt ⟨rfl, bt⟩
      have BT := hid (below_al (below_on B5.out bt) (.cells #[.int .i64 0, .int .i64 0, .slice none 0 0, .string ⟨#[]⟩] 49))
      clear bt B5
      go_wp2_with fail
      refine (NI.out.cp _ _ _).mono ?_
      rintro e wz ⟨rfl, hz⟩
      subst hz
      go_wp2_with fail
      refine (NI.out.ti _ _).mono ?_
      rintro e wz ⟨rfl, hz⟩
      subst hz
      go_wp2_with fail
      refine (NI.out.st _).mono ?_
      rintro e wu ⟨rfl, bu⟩
      have BU := hid (below_on BT.out bu)
      clear bu BT
      go_wp2_with fail
      refine (NI.out.ld _).mono ?_
      rintro e wz ⟨rfl, hz⟩
      subst hz
      go_wp2_with fail
      refine (NI.out.cm _).mono ?_
      rintro e wz ⟨rfl, hz⟩
      subst hz
      go_wp2_with fail
      refine (NI.out.su _ _ _).mono ?_
      rintro e wv ⟨rfl, bv⟩
      have BV := hid (below_on BU.out bv)
      clear bv BU
      go_wp2_with fail
      refine (NI.out.me _).mono ?_
      rintro e wz ⟨rfl, hz⟩
      subst hz
      go_wp2
      go_ret
      exact ⟨rfl, BV.out⟩
end Go.Proofs.YtlkidnfgodficaaGreat
namespace Go.Proofs.YtlkidnfgodficaaGreat
open Go.RowKit Go.Maps
set_option linter.unusedVariables false
set_option linter.unusedSimpArgs false

theorem raftNew_walk (me tm vt : Int) (v : Value) (es : List En) (w : World) (w0 : (Lit.int .i64 me).wf = true) (hv : EntI w v es) (hz : es.length ≤ 4398046511104) (hy : ∀ x ∈ es, x.da.size ≤ 140737488355328) : Calls Tryz.prog 5 #[.int .i64 me, .agg #[.int .i64 tm, .int .i64 vt], v] w fun e w' => e = .returned (.bool true) ∧ Below w.heap.size w w' := by
  by_cases h0 : 0 ≤ me
  case neg => exact raftNew_1 me tm vt v es w hv hz hy h0
  by_cases h1 : me < 7
  case neg => exact raftNew_2 me tm vt v es w hv hz hy h0 h1
  by_cases h2 : 2 ≤ tm
  case neg => exact raftNew_3 me tm vt v es w hv hz hy h0 h1 h2
  by_cases h3 : tm ≤ 1099511627776
  case neg => exact raftNew_4 me tm vt v es w hv hz hy h0 h1 h2 h3
  by_cases h4 : -1 ≤ vt
  case neg => exact raftNew_5 me tm vt v es w hv hz hy h0 h1 h2 h3 h4
  by_cases h5 : vt < 7
  case neg => exact raftNew_6 me tm vt v es w hv hz hy h0 h1 h2 h3 h4 h5
  cases hm : mesOk 2 tm es
  · exact raftNew_f me tm vt v es w hv hz hy h0 h1 h2 h3 h4 h5 hm
  · exact raftNew_t me tm vt v es w hv hz hy h0 h1 h2 h3 h4 h5 hm
end Go.Proofs.YtlkidnfgodficaaGreat
