/- The walk of the law FrameTorn: whatever the input, it answers true. -/
import Derived.Test.YtfdhaedpnjlpiabTornM
import Derived.Test.YtfdhaedpnjlpiabAwake2
import Derived.Test.YtfdhaedpnjlpiabSame
namespace Go.Proofs.Ytfdhaedpnjlpiab
open Go.RowKit
set_option linter.unusedVariables false

/-- the place of a cut -/
theorem cut_at (c : Int) (L : Nat) (hL : 1 ≤ L) : ∃ (r : Int) (k : Nat), c.tmod L = r ∧ -(L : Int) < r ∧ r < L ∧ (r + L) % L = k ∧ k < L := by
  have h1 : -(L : Int) < c.tmod L := by
    have := Int.lt_tmod_of_pos c (b := (L : Int)) (by omega)
    omega
  have h2 : c.tmod L < L := Int.tmod_lt_of_pos c (by omega)
  have h3 := Int.emod_nonneg (c.tmod L + L) (b := (L : Int)) (by omega)
  have h4 := Int.emod_lt_of_pos (c.tmod L + L) (b := (L : Int)) (by omega)
  exact ⟨_, ((c.tmod L + L) % L).toNat, rfl, h1, h2, by omega, by omega⟩

theorem frms_snoc (l : List ByteArray) (x : ByteArray) : frms (l ++ [x]) = frms l ++ frm x.data.toList := by simp [frms]
theorem ba_append (A : ByteArray) (F : List UInt8) : (A ++ ByteArray.mk F.toArray).data.toList = A.data.toList ++ F := by simp [ByteArray.data_append]

set_option maxRecDepth 100000 in
set_option maxHeartbeats 1600000 in
theorem frameTorn_ok (v : Value) (xs : List ByteArray) (b : ByteArray) (c : Int) (w : World) (hv : Strs w v xs) (hl : b.size ≤ 262144) (hxl : xs.length ≤ 9223372036854775807) (hc : -9223372036854775808 ≤ c ∧ c ≤ 9223372036854775807) :
    Calls Try.prog 8 #[v, .string b, .int .i64 c] w fun e w' => e = .returned (.bool true) ∧ Below w.heap.size w w' := by
  obtain ⟨i0, hi, hz0, hz1, hz2⟩ := info_parts info9'
  have HF := show Hid _ from fun w => frame_ok b w hl
  have hlen := frm_len b.data.toList
  have hbl : b.data.toList.length = b.size := by simp
  rw [hbl] at hlen
  have hfs : (ByteArray.mk (frm b.data.toList).toArray).size = 8 + b.size := by show (frm b.data.toList).toArray.size = _; simp [hlen]
  have HFL := show Hid ((ByteArray.mk (frm b.data.toList).toArray).data.toList = frm b.data.toList) from by show _ = _; simp
  generalize ByteArray.mk (frm b.data.toList).toArray = f at HF hfs HFL
  have hf1 : 8 ≤ f.size := by omega
  have hf2 : f.size ≤ 262152 := by omega
  obtain ⟨r, k, hr, hr1, hr2, hk, hkl⟩ := cut_at c f.size (by omega)
  have HFS := show Hid _ from hfs
  have hd8 : decide ((f.size : Int) < 8) = false := by simp; omega
  obtain ⟨ad, cap, rfl, hcl⟩ := hv.at
  have HC := show Hid _ from hcl
  clear hv hcl hlen hbl hfs
  generalize hn : xs.length = n at *
  go_enter Try.func8, Try.ntmps8
  go_wp2_with fail
  refine (HF.out _).mono ?_
  rintro e w1 ⟨rfl, hB1⟩
  go_wp2
  generalize (r + (f.size : Int)) % (f.size : Int) = z at hk ⊢
  subst hk
  clear hr hr1 hr2
  go_loopw [10, 11, 12] (fun al l i wr => ∃ (j m : Nat) (A : ByteArray) (ts : List ByteArray), i = .int .i64 j ∧ j ≤ n ∧ j ≤ 20 ∧ al = .string A ∧ A.size ≤ 262152 * j ∧ m ≤ j ∧ wr.ownsRow w.heap.size 9 1 l m (ss ts) ∧ Below w.heap.size w wr ∧ Hid (ts.length = m) ∧ Hid (A.data.toList = frms ts) ∧ Hid (∀ x ∈ ts, x.size ≤ 262144)) (fun _ _ i _ => 20 - (intOf i).toNat)
  case atStart => exact ⟨0, 0, ⟨#[]⟩, [], rfl, by omega, by omega, rfl, (by show 0 ≤ _; omega), by omega, World.ownsRow_nil _ _ _ _, hB1, rfl, rfl, (fun x hx => by cases hx)⟩
  case round =>
    obtain ⟨j, m, A, ts, rfl, hj, hj20, rfl, hA, hm, hown, hB, hts, hAL, hsm⟩ := hrel
    have hbase := hB.size
    by_cases hlt : j < n ∧ j < 20
    · obtain ⟨hlt1, hlt2⟩ := hlt
      have q1 : (j : Int) < (n : Int) := by omega
      have q2 : (j : Int) < 20 := by omega
      obtain ⟨bb, off, rfl, hbb, hcell⟩ := HC.out j (by omega)
      have hcw : wr.cell? ⟨bb, off + j, none⟩ = some (.string (xs.getD j ⟨#[]⟩)) := (hB.cell (p := ⟨bb, off + j, none⟩) hbb).trans hcell
      generalize xs.getD j ⟨#[]⟩ = x at hcw
      clear hcell HC
      by_cases hx : x.size ≤ 262144
      · have HX := show Hid _ from fun w => frame_ok x w hx
        have hxl2 := frm_len x.data.toList
        have hxl3 : x.data.toList.length = x.size := by simp
        have hgs : (ByteArray.mk (frm x.data.toList).toArray).size = 8 + x.size := by show (frm x.data.toList).toArray.size = _; simp [hxl2]
        have HAP := show Hid ((A ++ ByteArray.mk (frm x.data.toList).toArray).data.toList = frms (ts ++ [x])) from by show _ = _; rw [ba_append, hAL.out, frms_snoc]
        generalize ByteArray.mk (frm x.data.toList).toArray = g at HX hgs HAP
        have hg1 : g.size ≤ 262152 := by omega
        clear hxl2 hxl3 hgs
        go_wp2_with (first
          | (go_at_call 19; refine (HX.out _).mono ?_; rintro e w2 ⟨rfl, hB2⟩; have hown2 := own_keeps hown hB2; have hB3 := hB.trans (hB2.mono hbase); have hbase2 := hB3.size; have hcw2 := (hB2.cell (p := ⟨bb, off + j, none⟩) (Nat.lt_of_lt_of_le hbb hbase)).trans hcw)
          | (at_builtin; refine wpList_append_own _ rfl (.tmp 69) (.tmp 74) 28 rfl w.heap.size 9 i0 (.string ⟨#[]⟩) 1 16 Try.underlying28 hi hz0 hz1 hz2 rfl (by decide) _ _ _ rfl (hown2.alloc _) ⟨w2.heap.size, 0, none⟩ 1 1 [_] rfl rfl (cell_one_new _ _ _) ?c2 ?c3 ?c4 ?c5 ?_))
        case c2 => intro u hu; simp at hu; subst hu; rfl
        case c3 => unfold maxLen; omega
        case c4 => omega
        case c5 => simp; omega
        intro v' w3 hown' hgrow _
        have R := rel_fs hbase2 hown2 hB3 hown' hgrow
        clear hown' hgrow hown2 hB3 hown hB hB2
        go_wp2
        go_roundw
        case rel => exact ⟨j + 1, m + 1, A ++ g, ts ++ [x], by go_num, by omega, by omega, rfl, by rw [ByteArray.size_append]; omega, by omega, R.1, R.2, (by show _ = _; have := hts.out; simp; omega), HAP, (by intro y hy; simp at hy; rcases hy with hy | hy; exact hsm.out y hy; rw [hy]; exact hx)⟩
        case measure => simp [intOf]; omega
      · have HX := show Hid _ from fun w => frame_long x w hx
        go_wp2_with (first
          | (go_at_call 19; refine (HX.out _).mono ?_; rintro e w2 ⟨rfl, hB2⟩; have hown2 := own_keeps hown hB2; have hB3 := hB.trans (hB2.mono hbase)))
        go_roundw
        case rel => exact ⟨j + 1, m, A, ts, by go_num, by omega, by omega, rfl, by omega, by omega, hown2, hB3, hts, hAL, hsm⟩
        case measure => simp [intOf]; omega
    · have hex := fs_torn (A ++ f.extract 0 k) b ts k hsm.out hl (by have := HFS.out; omega) (by
        have e := HFL.out
        have e2 : (f.extract 0 k).data.toList = (frm b.data.toList).take k := by rw [ByteArray.data_extract, Array.toList_extract, e]; simp [List.extract]
        rw [ByteArray.data_append, Array.toList_append, hAL.out, e2])
      have hun := unf_torn (f.extract 0 k) b [] k hl (by have := HFS.out; omega) (by
        have e := HFL.out
        rw [ByteArray.data_extract, Array.toList_extract, e]; simp [List.extract])
      have hAs : (frms ts).length = A.size := by rw [← hAL.out]; simp
      rw [hAs] at hex
      have hes : (f.extract 0 k).size = k := by rw [ByteArray.size_extract]; omega
      have HU := show Hid _ from fun w => unframe_any (f.extract 0 k) 0 w (by omega)
      have HS := show Hid _ from fun w => frames_any (A ++ f.extract 0 k) w (by rw [ByteArray.size_append]; omega)
      rw [hex] at HS
      have hun' : (unfAt (f.extract 0 k) 0).e = 5 := hun
      rw [hun'] at HU
      generalize unfAt (f.extract 0 k) 0 = T at HU
      have hOwn := show Hid _ from hown
      have q3 : (k : Int) ≤ (f.size : Int) := by omega
      clear hex hun hun' hown HC
      have hor : n ≤ j ∨ (j < n ∧ 20 ≤ j) := by omega
      clear hlt
      have HTS := show Hid (ts.length ≤ 140737488355328) from by show _ ≤ _; have := hts.out; omega
      rcases hor with h1 | ⟨h1, h2⟩
      all_goals
        go_wp2_with fail
        refine (HU.out _).mono ?_
        rintro e w2 ⟨rfl, hB2⟩
        go_wp2_with fail
        refine (HS.out _).mono ?_
        rintro e w3 ⟨u3, rfl, hu3, hB3⟩
        have hu3' := show Hid _ from Strs.own hu3
        clear hu3
        go_wp2_with fail
        refine (awake2 _).mono ?_
        rintro e w4 ⟨rfl, hB4⟩
        have hin := show Hid _ from Strs.own (own_keeps (own_keeps (own_keeps hOwn.out hB2) hB3) hB4)
        go_wp2_with fail
        refine (same_any _ _ ts _ (Strs.below hu3'.out hB4) hin.out HTS.out).mono ?_
        rintro e w5 ⟨rfl, hB5⟩
        go_wp2
        go_ret
        have e2 := hB.trans (hB2.mono hB.size)
        have e3 := e2.trans (hB3.mono e2.size)
        have e4 := e3.trans (hB4.mono e3.size)
        exact ⟨rfl, e4.trans (hB5.mono e4.size)⟩

set_option maxRecDepth 100000 in
set_option maxHeartbeats 400000 in
theorem frameTorn_long (v : Value) (b : ByteArray) (c : Int) (w : World) (hl : ¬ b.size ≤ 262144) :
    Calls Try.prog 8 #[v, .string b, .int .i64 c] w fun e w' => e = .returned (.bool true) ∧ Below w.heap.size w w' := by
  have HF := show Hid _ from fun w => frame_long b w hl
  have hd : decide (262144 < (b.size : Int)) = true := by simp; omega
  go_enter Try.func8, Try.ntmps8
  go_wp2_with fail
  refine (HF.out _).mono ?_
  rintro e w1 ⟨rfl, hB1⟩
  go_wp2_with fail
  refine (awake2 _).mono ?_
  rintro e w3 ⟨rfl, hB3⟩
  go_wp2
  go_ret
  exact ⟨rfl, hB1.trans (hB3.mono hB1.size)⟩

theorem frameTorn_walk (v : Value) (xs : List ByteArray) (b : ByteArray) (c : Int) (w : World) (hv : Strs w v xs) (hxl : xs.length ≤ 9223372036854775807) (hb : b.size ≤ reachBytes) (hc : (Lit.int .i64 c).wf = true) :
    Calls Try.prog 8 #[v, .string b, .int .i64 c] w fun e w' => e = .returned (.bool true) ∧ Below w.heap.size w w' := by
  by_cases hl : b.size ≤ 262144
  · exact frameTorn_ok v xs b c w hv hl hxl (by simpa [Lit.wf, IntKind.min, IntKind.max, IntKind.signed, IntKind.bits] using hc)
  · exact frameTorn_long v b c w hl
end Go.Proofs.Ytfdhaedpnjlpiab
